/- The table: Copy, New, Len, Get. -/
import Derived.Test.YtclefcjojlkcnaaDoorC
import Derived.Maps.Own
import Derived.Maps.OwnOps
import Derived.Maps.OwnSet
import Derived.Maps.Views
import Derived.StringKeys
namespace Go.Proofs.YtclefcjojlkcnaaDoor
open Go.RowKit Go.Maps
set_option linter.unusedVariables false
set_option linter.unusedSimpArgs false
theorem keyLaw : Keyed Tryd.prog 9 := string_keyed Tryd.underlying9
/-- an entry of the table -/
def IsEnt (v : Value) (id : Int) : Prop := ∃ (op wd vl : Int) (s : ByteArray) (p : Option Addr) (n c : Nat), v = .agg #[.int .i64 op, .int .i64 wd, .int .u64 vl, .string s, .slice p n c, .int .i64 id]
open Classical in
noncomputable def entR (v : Value) : Option (DataW Unit × List MemPlace) := if h : ∃ id, IsEnt v id then some (.lit (.int .i64 h.choose), []) else none
theorem ent_inj {v : Value} {a b : Int} (h : IsEnt v a) (k : IsEnt v b) : a = b := by
  obtain ⟨_, _, _, _, _, _, _, rfl⟩ := h
  obtain ⟨_, _, _, _, _, _, _, e⟩ := k
  simp at e; exact e.2.2.2.2.2
theorem entR_mk {v : Value} {id : Int} (h : IsEnt v id) : entR v = some (.lit (.int .i64 id), []) := by
  have hx : ∃ id, IsEnt v id := ⟨id, h⟩
  unfold entR
  rw [dif_pos hx, ent_inj hx.choose_spec h]
theorem entR_inv {v : Value} {z : DataW Unit × List MemPlace} (h : entR v = some z) : ∃ id, IsEnt v id ∧ z = (.lit (.int .i64 id), []) := by
  unfold entR at h
  split at h
  · rename_i hx
    exact ⟨hx.choose, hx.choose_spec, by simpa using h.symm⟩
  · cases h
def zent : Value := .agg #[.int .i64 0, .int .i64 0, .int .u64 0, .string ⟨#[]⟩, .slice none 0 0, .int .i64 0]
theorem zero71 (w : World) : (zeroValue 71).run Tryd.prog w = .ok zent w := by kernel_rfl
theorem zent_R : entR zent = some (.lit (.int .i64 0), []) := entR_mk ⟨0, 0, 0, ⟨#[]⟩, none, 0, 0, rfl⟩
theorem info58 : ∃ j, Tryd.prog.info? 58 = some j := by
  cases h : Tryd.prog.info? 58 with
  | some j => exact ⟨j, rfl⟩
  | none =>
    have : (Tryd.prog.info? 58).isSome = true := by kernel_rfl
    rw [h] at this; cases this
/-- a table that New made -/
structure TB (B : Nat) (w : World) (tb mb c : Nat) (D : DataW Unit) : Prop where
  c0 : w.cell? ⟨tb, 0, none⟩ = some (.pointer (some ⟨tb, 0, none⟩))
  c1 : w.cell? ⟨tb, 1, none⟩ = some (.map (some mb))
  map : w.ownsMap Tryd.prog 9 entR mb c D
  lt : tb < w.heap.size
  lo : B ≤ mb
  ne : mb ≠ tb
theorem own_map_at {w w' : World} {b n : Nat} {D : DataW Unit} (h : w.ownsMap Tryd.prog 9 entR b n D) (hb : w'.heap[b]? = w.heap[b]?) : w'.ownsMap Tryd.prog 9 entR b n D := by
  obtain ⟨es, cl, h1, h2⟩ := h
  exact ⟨es, cl, hb.trans h1, h2⟩
theorem TB.keep {B : Nat} {w w' : World} {tb mb c : Nat} {D : DataW Unit} (h : TB B w tb mb c D) (hb : BK w w') : TB B w' tb mb c D := by
  have hb : Below w.heap.size w w' := hb
  exact ⟨(hb.cell (p := ⟨tb, 0, none⟩) h.lt).trans h.c0, (hb.cell (p := ⟨tb, 1, none⟩) h.lt).trans h.c1, own_map_at h.map (hb.block mb h.map.lt), Nat.lt_of_lt_of_le h.lt hb.size, h.lo, h.ne⟩
theorem TB.turned {B : Nat} {w w' : World} {tb mb c c' : Nat} {D D' : DataW Unit} (h : TB B w tb mb c D) (ht : w.mapTurned w' mb) (hm : w'.ownsMap Tryd.prog 9 entR mb c' D') : TB B w' tb mb c' D' := by
  have hg := ht.grown
  exact ⟨hg.cell h.c0 (by simpa using h.ne.symm), hg.cell h.c1 (by simpa using h.ne.symm), hm, Nat.lt_of_lt_of_le h.lt hg.size, h.lo, h.ne⟩
theorem B5.turned {w w' : World} {b mb : Nat} {x0 x1 x2 x3 x4 : Value} (h : B5 w b x0 x1 x2 x3 x4) (ht : w.mapTurned w' mb) (hne : b ≠ mb) : B5 w' b x0 x1 x2 x3 x4 := by
  have hg := ht.grown
  obtain ⟨a0, a1, a2, a3, a4⟩ := h
  exact ⟨hg.cell a0 (by simpa using hne), hg.cell a1 (by simpa using hne), hg.cell a2 (by simpa using hne), hg.cell a3 (by simpa using hne), hg.cell a4 (by simpa using hne)⟩
theorem below_turned {B : Nat} {w0 w w' : World} {mb : Nat} (h : Below B w0 w) (ht : w.mapTurned w' mb) (hB : B ≤ w.heap.size) (hlo : B ≤ mb) : Below B w0 w' :=
  h.grown ht.grown hB (fun r hr => by cases hr; exact hlo)
set_option maxHeartbeats 1000000 in
theorem usable_any (tb : Nat) (w : World) (hc : w.cell? ⟨tb, 0, none⟩ = some (.pointer (some ⟨tb, 0, none⟩))) : Calls Tryd.prog 46 #[.pointer (some ⟨tb, 0, none⟩)] w fun e w' => e = .returned (.bool true) ∧ w = w' := by
  obtain ⟨j, hj⟩ := info58
  have he := run_eql_ptr_same (P := Tryd.prog) (w := w) ⟨tb, 0, none⟩ Tryd.underlying40 hj
  go_enter Tryd.func46, Tryd.ntmps46
  go_wp2_with fail
  go_ret
  exact ⟨rfl, rfl⟩
set_option maxHeartbeats 1000000 in
theorem new_any (B : Nat) (w : World) (hB : B ≤ w.heap.size) : Calls Tryd.prog 24 #[] w fun e w' => e = .returned (.pointer (some ⟨w.heap.size + 1, 0, none⟩)) ∧ TB B w' (w.heap.size + 1) w.heap.size 0 (.map []) ∧ BK w w' := by
  have hmm := @run_makeMap Tryd.prog
  go_enter Tryd.func24, Tryd.ntmps24
  go_wp2_with fail
  go_ret
  refine ⟨rfl, ?_, ?_⟩
  · have hm : ((w.alloc (.map #[] 0))).ownsMap Tryd.prog 9 entR w.heap.size 0 (.map []) := World.ownsMap_made w _ _ _
    have hr := (MapKept.heap_alloc (w.alloc (.map #[] 0)) (.cells #[.pointer (some ⟨w.heap.size + 1, 0, none⟩), .map (some w.heap.size)] 58)).1
    have hr' : ((w.alloc (.map #[] 0)).alloc (.cells #[.pointer (some ⟨w.heap.size + 1, 0, none⟩), .map (some w.heap.size)] 58)).heap[w.heap.size + 1]? = some (.cells #[.pointer (some ⟨w.heap.size + 1, 0, none⟩), .map (some w.heap.size)] 58) := by simpa using hr
    exact ⟨by rw [cell_of_row _ _ _ _ _ _ hr']; rfl, by rw [cell_of_row _ _ _ _ _ _ hr']; rfl, hm.alloc _, by simp, hB, by omega⟩
  · exact bk_alloc (bk_alloc (BK.refl w) _) _
set_option maxHeartbeats 1000000 in
theorem len_any (B tb mb c : Nat) (D : DataW Unit) (w : World) (h : TB B w tb mb c D) : Calls Tryd.prog 31 #[.pointer (some ⟨tb, 0, none⟩)] w fun e w' => e = .returned (.int .i64 (Maps.size D : Nat)) ∧ w = w' := by
  have hu := Lib.hid (usable_any tb w h.c0)
  have hl := h.map.len Tryd.underlying56 3
  have c1 := h.c1
  clear h
  go_enter Tryd.func31, Tryd.ntmps31
  go_wp2_with (go_at_call 46; refine hu.out.mono ?_; rintro e w' ⟨rfl, rfl⟩)
  go_ret
  exact ⟨rfl, rfl⟩
def ints (zs : List Int) : List Value := zs.map (Value.int .i64)
theorem Ra.own {w : World} {B : Nat} {p : Option Addr} {c : Nat} {zs : List Int} (o : w.ownsRow B 3 1 (.slice p zs.length c) zs.length (ints zs)) : Ra w p zs := fun h0 => by
  rcases o.2 with ⟨h, h1⟩ | ⟨g, cap, cur, hv, hb, hg, hn, _⟩
  · omega
  · simp at hv
    obtain ⟨rfl, _⟩ := hv
    refine ⟨g, 0, rfl, (Array.getElem?_eq_some_iff.1 hg).1, fun k hk => ?_⟩
    have := World.ownsRow.cells o (g := g) rfl k (.int .i64 (zs.getD k 0)) (by simp [ints, List.getD_eq_getElem?_getD, hk])
    rw [show (⟨g, 0, none⟩ : Addr).add k = ⟨g, 0 + k, none⟩ from Go.WideShapes.add_plain _ _ _] at this
    exact this
theorem own_shape {w : World} {B e sz n : Nat} {v : Value} {xs : List Value} (h : w.ownsRow B e sz v n xs) : ∃ p c, v = .slice p n c := by
  rcases h.2 with ⟨hv, h0⟩ | ⟨g, cap, cur, hv, _⟩
  · exact ⟨none, 0, by rw [hv, h0]⟩
  · exact ⟨_, cap, hv⟩
/-- a slice of zs.length numbers: nil, empty, or in memory -/
theorem clone_any (p : Option Addr) (c : Nat) (zs : List Int) (w : World) (h : Ra w p zs) (hl : zs.length ≤ 1000) :
    Calls Tryd.prog 45 #[.slice p zs.length c] w fun e w' => ∃ p' c', e = .returned (.slice p' zs.length c') ∧ w'.ownsRow w.heap.size 3 1 (.slice p' zs.length c') zs.length (ints zs) ∧ BK w w' := by
  by_cases h0 : 0 < zs.length
  · obtain ⟨b, off, rfl, h1, h2⟩ := h h0
    refine (Tryd.slices_Clone_int b off zs.length c zs w (Nat.le_refl _) (by omega) h2).mono ?_
    rintro e w' ⟨v', rfl, ho, _, hb⟩
    rw [List.take_length] at ho
    obtain ⟨p', c', rfl⟩ := own_shape ho
    exact ⟨p', c', rfl, ho, hb⟩
  · have hz : zs = [] := List.eq_nil_of_length_eq_zero (by omega)
    subst hz
    cases p with
    | none =>
      refine (Tryd.slices_Clone_int_nil 0 c w).mono ?_
      rintro e w' ⟨rfl, rfl⟩
      exact ⟨none, 0, rfl, World.ownsRow_nil _ _ _ _, BK.refl _⟩
    | some a =>
      refine (Tryd.slices_Clone_int_zero a c w).mono ?_
      rintro e w' ⟨v', rfl, ho, _, hb⟩
      obtain ⟨p', c', rfl⟩ := own_shape ho
      exact ⟨p', c', rfl, ho, hb⟩
theorem bk_set {w0 w : World} (h : BK w0 w) (p : Addr) (x : Value) (hp : w0.heap.size ≤ p.block) : BK w0 (w.setCell p x) := by
  have h : Below w0.heap.size w0 w := h
  exact h.setCell hp x
theorem own_set {w : World} {B e sz n : Nat} {v : Value} {xs : List Value} (o : w.ownsRow B e sz v n xs) (p : Addr) (x : Value) (hp : p.block < B) : (w.setCell p x).ownsRow B e sz v n xs :=
  own_at o fun k hk => Below.heap_setCell w p x k (by have := (o.lt k hk).1; omega)
theorem own_mono {w : World} {B B' e sz n : Nat} {v : Value} {xs : List Value} (o : w.ownsRow B e sz v n xs) (h : B' ≤ B) : w.ownsRow B' e sz v n xs := by
  refine ⟨o.1, ?_⟩
  rcases o.2 with hn | ⟨g, cap, cur, hv, hb, rest⟩
  · exact .inl hn
  · exact .inr ⟨g, cap, cur, hv, Nat.le_trans h hb, rest⟩
theorem fz_keep {w w' : World} {b : Nat} (h : ∀ k, w.frozen? ⟨b, k, none⟩ = false) (hb : BK w w') (hlt : b < w.heap.size) : ∀ k, w'.frozen? ⟨b, k, none⟩ = false := fun k =>
  ((show Below w.heap.size w w' from hb).frozen (p := ⟨b, k, none⟩) hlt).trans (h k)
theorem fz_new (w : World) (cs : Array Value) (T : Nat) : ∀ k, (w.alloc (.cells cs T)).frozen? ⟨w.heap.size, k, none⟩ = false := fun k => by rw [World.frozen?_alloc_new]
set_option maxHeartbeats 2000000 in
theorem copy_any (op wd vl : Int) (name : ByteArray) (p : Option Addr) (c : Nat) (zs : List Int) (w : World) (h : Ra w p zs) (hl : zs.length ≤ 1000) :
    Calls Tryd.prog 23 #[.agg #[.int .i64 op, .int .i64 wd, .int .u64 vl, .string name, .slice p zs.length c]] w fun e w' => ∃ p' c', e = .returned (.agg #[.int .i64 op, .int .i64 wd, .int .u64 vl, .string name, .slice p' zs.length c']) ∧ w'.ownsRow w.heap.size 3 1 (.slice p' zs.length c') zs.length (ints zs) ∧ BK w w' := by
  have hk0 : BK w ((w.alloc (.cells #[.int .i64 op, .int .i64 wd, .int .u64 vl, .string name, .slice p zs.length c] 26)).alloc (.cells #[.int .i64 0, .int .i64 0, .int .u64 0, .string ⟨#[]⟩, .slice none 0 0] 26)) := bk_alloc (bk_alloc (BK.refl w) _) _
  have hx := (b5_new w (.int .i64 op) (.int .i64 wd) (.int .u64 vl) (.string name) (.slice p zs.length c) 26).keep (bk_alloc (BK.refl _) (.cells #[.int .i64 0, .int .i64 0, .int .u64 0, .string ⟨#[]⟩, .slice none 0 0] 26)) (by simp)
  have hfx := fz_keep (fz_new w #[.int .i64 op, .int .i64 wd, .int .u64 vl, .string name, .slice p zs.length c] 26) (bk_alloc (BK.refl _) (.cells #[.int .i64 0, .int .i64 0, .int .u64 0, .string ⟨#[]⟩, .slice none 0 0] 26)) (by simp)
  have hy := b5_new (w.alloc (.cells #[.int .i64 op, .int .i64 wd, .int .u64 vl, .string name, .slice p zs.length c] 26)) (.int .i64 0) (.int .i64 0) (.int .u64 0) (.string ⟨#[]⟩) (.slice none 0 0) 26
  have hfy := fz_new (w.alloc (.cells #[.int .i64 op, .int .i64 wd, .int .u64 vl, .string name, .slice p zs.length c] 26)) #[.int .i64 0, .int .i64 0, .int .u64 0, .string ⟨#[]⟩, .slice none 0 0] 26
  have hsz : ((w.alloc (.cells #[.int .i64 op, .int .i64 wd, .int .u64 vl, .string name, .slice p zs.length c] 26)).alloc (.cells #[.int .i64 0, .int .i64 0, .int .u64 0, .string ⟨#[]⟩, .slice none 0 0] 26)).heap.size = w.heap.size + 2 := by simp
  have hra := h.keep hk0
  rw [show (w.alloc (.cells #[.int .i64 op, .int .i64 wd, .int .u64 vl, .string name, .slice p zs.length c] 26)).heap.size = w.heap.size + 1 by simp] at hy hfy
  clear h
  go_enter Tryd.func23, Tryd.ntmps23
  go_wp2_with fail
  generalize (w.alloc (.cells #[.int .i64 op, .int .i64 wd, .int .u64 vl, .string name, .slice p zs.length c] 26)).alloc (.cells #[.int .i64 0, .int .i64 0, .int .u64 0, .string ⟨#[]⟩, .slice none 0 0] 26) = w0 at hk0 hx hfx hy hfy hsz hra ⊢
  refine (clone_any p c zs w0 hra hl).mono ?_
  rintro e w1 ⟨p1, c1, rfl, ho, hb1⟩
  obtain ⟨x0, x1, x2, x3, x4⟩ := hx.keep hb1 (by omega)
  obtain ⟨y0, y1, y2, y3, y4⟩ := hy.keep hb1 (by omega)
  have fx := fz_keep hfx hb1 (by omega)
  have fy := fz_keep hfy hb1 (by omega)
  have HO := Lib.hid ho
  have HK := Lib.hid (bk_tr hk0 hb1)
  have Hz := Lib.hid hsz
  clear hk0 hx hfx hy hfy hra ho hb1 hsz
  go_wp2_with fail
  refine bodyPost_ret (v := .agg #[.int .i64 op, .int .i64 wd, .int .u64 vl, .string name, .slice p1 zs.length c1]) (by simp [results, Tryd.results23, go_sem, y0, y1, y2, y3, y4]) rfl ⟨p1, c1, rfl, ?_, ?_⟩
  · have hz := Hz.out
    refine own_mono (B := w0.heap.size) ?_ (by omega)
    exact own_set (own_set (own_set (own_set (own_set (own_set HO.out _ _ (by simp; omega)) _ _ (by simp; omega)) _ _ (by simp; omega)) _ _ (by simp; omega)) _ _ (by simp; omega)) _ _ (by simp; omega)
  · exact bk_set (bk_set (bk_set (bk_set (bk_set (bk_set HK.out _ _ (by simp)) _ _ (by simp)) _ _ (by simp)) _ _ (by simp)) _ _ (by simp)) _ _ (by simp)
end Go.Proofs.YtclefcjojlkcnaaDoor
