/- ParseList of the program. -/
import Derived.Test.YtkdpbmbkpepelaaDoorQ
import Derived.Deep.Upon
import Derived.Sort.CutIn
import Derived.Maps.AppendAt
namespace Go.Proofs.YtkdpbmbkpepelaaDoor
open Go.RowKit Go.Shelf
set_option linter.unusedVariables false
set_option linter.unusedSimpArgs false
attribute [local go_sem] Oper.semAt_some
def ints (zs : List Int) : List Value := zs.map (Value.int .i64)
theorem Ra.own {w : World} {B : Nat} {p : Option Addr} {c : Nat} {zs : List Int} (o : w.ownsRow B 3 1 (.slice p zs.length c) zs.length (ints zs)) : Ra w p zs := fun h0 => by
  rcases o.2 with ⟨h, h1⟩ | ⟨g, cap, cur, hv, hb, hg, hn, _⟩
  · omega
  · simp at hv
    obtain ⟨rfl, _⟩ := hv
    refine ⟨g, 0, rfl, (Array.getElem?_eq_some_iff.1 hg).1, fun k hk => ?_⟩
    have := World.ownsRow.cells o (g := g) rfl k (.int .i64 (zs.getD k 0)) (by simp [ints, List.getD_eq_getElem?_getD, hk])
    rw [show (⟨g, 0, none⟩ : Addr).add k = ⟨g, 0 + k, none⟩ from Go.WideShapes.add_plain _ _ _] at this
    exact this
def lz (n : Lib.NumEnd (List Int)) : List Int := match n with
  | .ok zs => zs
  | _ => []
def cd (n : Lib.NumEnd (List Int)) : Int := match n with
  | .ok _ => 0
  | .syntax => 6
  | .range => 2
/-- a list of numbers and an Errno come back -/
def PL (w : World) (n : Lib.NumEnd (List Int)) (e : Ending) (w' : World) : Prop := ∃ p c, e = .returned (.tuple #[.slice p (lz n).length c, .int .i64 (cd n)]) ∧ Ra w' p (lz n) ∧ BK w w'
theorem plA_cons (acc : List Int) (x : List UInt8) (r : List (List UInt8)) : plA acc (x :: r) = match parseI x with
    | .ok n => plA (acc ++ [n]) r
    | .syntax => .syntax
    | .range => .range := by rw [plA]; cases parseI x <;> rfl
theorem plA_app : ∀ (xs ys : List (List UInt8)) (acc : List Int), plA acc (xs ++ ys) = match plA acc xs with
    | .ok zs => plA zs ys
    | .syntax => .syntax
    | .range => .range
  | [], ys, acc => rfl
  | x :: xs, ys, acc => by
    rw [List.cons_append, plA_cons, plA_cons]
    cases hq : parseI x with
    | ok n => exact plA_app xs ys _
    | «syntax» => rfl
    | range => rfl
theorem plA_one (acc : List Int) (x : List UInt8) : plA acc [x] = match parseI x with
    | .ok n => .ok (acc ++ [n])
    | .syntax => .syntax
    | .range => .range := by
  rw [plA_cons]; rfl
theorem cells_own {β : Type} (B : Nat) (f : β → Array Value) (t : TypeId) : Own (fun s W => W.heap[B]? = some (.cells (f s) t (0, 0))) := fun s X Y row hs hg hrow =>
  (grownBy_keeps_cells hg hrow hs rfl).trans hs
def nums (pre : List BA) : List Int := lz (plA [] (bls pre))
/-- between two rounds -/
def IV (w : World) (n6 K : Nat) (pre : List BA) (X : World) : Prop :=
  (((∃ v, Boxed X K 33 v ∧ X.ownsRow n6 3 1 v (nums pre).length (ints (nums pre)) ∧ True) ∧ (X.heap[w.heap.size]? = some (.cells #[.slice none 0 0] 33 (0, 0)) ∧ X.heap[w.heap.size + 1]? = some (.cells #[.int .i64 0] 27 (0, 0)))) ∧ Below w.heap.size w X) ∧ plA [] (bls pre) = .ok (nums pre)
theorem IV.from {w : World} {n6 K B : Nat} (hB : w.heap.size ≤ B) : OwnFrom B (IV w n6 K) :=
  OwnFrom.and (OwnFrom.and (OwnFrom.and (Own.from (holdsRow_own n6 K 33 3 1 (fun pre => (nums pre).length) (fun pre => ints (nums pre)) (fun _ _ => True)) _) (OwnFrom.and (Own.from (cells_own w.heap.size (fun _ => #[.slice none 0 0]) 33) _) (Own.from (cells_own (w.heap.size + 1) (fun _ => #[.int .i64 0]) 27) _))) (ownFrom_below (Nat.le_refl _) hB)) (ownFrom_pure _ _)
/-- a piece that is no number has come -/
def IX (w : World) (pre : List BA) (X : World) : Prop :=
  ((X.heap[w.heap.size]? = some (.cells #[.slice none 0 0] 33 (0, 0)) ∧ X.heap[w.heap.size + 1]? = some (.cells #[.int .i64 (cd (plA [] (bls pre)))] 27 (0, 0))) ∧ Below w.heap.size w X) ∧ (plA [] (bls pre) = .syntax ∨ plA [] (bls pre) = .range)
theorem IX.from {w : World} {B : Nat} (hB : w.heap.size ≤ B) : OwnFrom B (IX w) :=
  OwnFrom.and (OwnFrom.and (OwnFrom.and (Own.from (cells_own w.heap.size (fun _ => #[.slice none 0 0]) 33) _) (Own.from (cells_own (w.heap.size + 1) (fun pre => #[.int .i64 (cd (plA [] (bls pre)))]) 27) _)) (ownFrom_below (Nat.le_refl _) hB)) (ownFrom_pure _ _)
theorem IV.set {w : World} {n6 K b2 : Nat} (h1 : b2 < n6) (h2 : K ≠ b2) (h3 : w.heap.size + 1 < b2) (pre : List BA) (A : World) (v : Value) (h : IV w n6 K pre A) : IV w n6 K pre (A.setCell ⟨b2, 0, none⟩ v) := by
  obtain ⟨⟨⟨⟨u, hu, hr, _⟩, hc, hz⟩, hb⟩, hp⟩ := h
  refine ⟨⟨⟨⟨u, bx_set hu h2, own_at hr (fun k hk => heap_setCell_other A ⟨b2, 0, none⟩ k v (fun e => ?_)), trivial⟩, ?_, ?_⟩, ?_⟩, hp⟩
  · have := (hr.lt k hk).1
    have e : k = b2 := e
    omega
  · exact (heap_setCell_other A ⟨b2, 0, none⟩ _ v (fun e => by have e : w.heap.size = b2 := e; omega)).trans hc
  · exact (heap_setCell_other A ⟨b2, 0, none⟩ _ v (fun e => by have e : w.heap.size + 1 = b2 := e; omega)).trans hz
  · exact hb.setCell (p := ⟨b2, 0, none⟩) (by show w.heap.size ≤ b2; omega) v
theorem nums_snoc {pre : List BA} {x : BA} {n : Int} (h : plA [] (bls pre) = .ok (nums pre)) (hn : parseI (bl x.1) = .ok n) : plA [] (bls (pre ++ [x])) = .ok (nums pre ++ [n]) ∧ nums (pre ++ [x]) = nums pre ++ [n] := by
  have e : plA [] (bls (pre ++ [x])) = .ok (nums pre ++ [n]) := by rw [bls_snoc, plA_app, h]; show plA (nums pre) [bl x.1] = _; rw [plA_one, hn]
  exact ⟨e, by show lz _ = _; rw [e]; rfl⟩
theorem bad_snoc {pre : List BA} {x : BA} (h : plA [] (bls pre) = .ok (nums pre)) (hn : parseI (bl x.1) = .syntax) : plA [] (bls (pre ++ [x])) = .syntax := by
  rw [bls_snoc, plA_app, h]; show plA (nums pre) [bl x.1] = _; rw [plA_one, hn]
theorem bad_snoc2 {pre : List BA} {x : BA} (h : plA [] (bls pre) = .ok (nums pre)) (hn : parseI (bl x.1) = .range) : plA [] (bls (pre ++ [x])) = .range := by
  rw [bls_snoc, plA_app, h]; show plA (nums pre) [bl x.1] = _; rw [plA_one, hn]
theorem ints_snoc (zs : List Int) (n : Int) : ints (zs ++ [n]) = ints zs ++ [.int .i64 n] := by simp [ints]
theorem nums_le (pre : List BA) : (nums pre).length ≤ pre.length := by
  unfold nums
  cases h : plA [] (bls pre) with
  | ok zs =>
    obtain ⟨ys, h1, h2, _⟩ := plA_uniq _ _ _ h
    have : (bls pre).length = ys.length := by rw [h2]; simp
    rw [bls_len] at this
    show zs.length ≤ _
    rw [h1, List.nil_append]; omega
  | «syntax» => exact Nat.zero_le _
  | range => exact Nat.zero_le _
theorem sp_len : ∀ l : List UInt8, (sp l).length ≤ l.length + 1
  | [] => by simp [sp]
  | c :: r => by
    have := sp_len r
    unfold sp
    split
    · simp; omega
    · split
      · rename_i x xs h; rw [h] at this; simp at this ⊢; omega
      · simp
set_option maxRecDepth 100000 in
set_option maxHeartbeats 2000000 in
theorem plist20_nil (s : ByteArray) (h : s = ⟨#[]⟩) (w : World) : Calls Tryd.prog 20 #[.string s] w (PL w (parseL (bl s))) := by
  have HV := Lib.hid (show parseL (bl s) = .ok [] by rw [h]; rfl)
  subst h
  have z1 : ((w.alloc (.cells #[.slice none 0 0] 33)).alloc (.cells #[.int .i64 0] 27)).heap[w.heap.size]? = some (.cells #[.slice none 0 0] 33 (0, 0)) := (heap_alloc_old _ _ (by simp)).trans (heap_alloc_new w _)
  have z2 := heap_alloc_new (w.alloc (.cells #[.slice none 0 0] 33)) (.cells #[.int .i64 0] 27)
  rw [sz1] at z2
  have k0 := bk_alloc (bk_alloc (BK.refl w) (.cells #[.slice none 0 0] 33)) (.cells #[.int .i64 0] 27)
  go_enter Tryd.func20, Tryd.ntmps20
  go_upto_region 1 with (fail)
  generalize (w.alloc (.cells #[.slice none 0 0] 33)).alloc (.cells #[.int .i64 0] 27) = w1 at z1 z2 k0 ⊢
  have B1 : Boxed w1 w.heap.size 33 (.slice none 0 0) := z1
  have B2 : Boxed w1 (w.heap.size + 1) 27 (.int .i64 0) := z2
  have c1 := B1.cell
  have c2 := B2.cell
  have f1 := B1.frozen
  have f2 := B2.frozen
  have F1 := Lib.hid (show Boxed ((w1.setCell ⟨w.heap.size, 0, none⟩ (.slice none 0 0)).setCell ⟨w.heap.size + 1, 0, none⟩ (.int .i64 0)) w.heap.size 33 (.slice none 0 0) from bx_set (B1.set _) (by omega))
  have F2 := Lib.hid (show Boxed ((w1.setCell ⟨w.heap.size, 0, none⟩ (.slice none 0 0)).setCell ⟨w.heap.size + 1, 0, none⟩ (.int .i64 0)) (w.heap.size + 1) 27 (.int .i64 0) from (bx_set B2 (by omega)).set _)
  have K0 := Lib.hid (bk_set (bk_set k0 ⟨w.heap.size, 0, none⟩ (.slice none 0 0) (Nat.le_refl _)) ⟨w.heap.size + 1, 0, none⟩ (.int .i64 0) (by show w.heap.size ≤ w.heap.size + 1; omega))
  clear z1 z2 k0 B1 B2
  go_wp2_with fail
  have g1 := F1.out.cell
  have g2 := F2.out.cell
  refine bodyPost_ret (v := .tuple #[.slice none 0 0, .int .i64 0]) (by simp [results, Tryd.results20, go_sem, g1, g2]) rfl ?_
  exact ⟨none, 0, by rw [HV.out]; rfl, by rw [HV.out]; exact fun h => absurd h (by decide), K0.out⟩
end Go.Proofs.YtkdpbmbkpepelaaDoor
