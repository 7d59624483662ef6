/- The reference's Canon. -/
import Derived.Test.YtclefcjojlkcnaaDoorZ
namespace Go.Proofs.YtclefcjojlkcnaaDoor
open Go.RowKit Go.Maps
set_option linter.unusedVariables false
set_option linter.unusedSimpArgs false
def mixF (ts zs : List Int) (k : Nat) : List Int := mapF ts zs k ++ zs.drop k
theorem mapF_len (ts zs : List Int) (k : Nat) (h : k ≤ zs.length) : (mapF ts zs k).length = k := by simp [mapF]; omega
theorem mixF_at (ts zs : List Int) (k : Nat) (h : k < zs.length) : (mixF ts zs k)[k]? = some (zs.getD k 0) := by
  unfold mixF; rw [List.getElem?_append_right (by rw [mapF_len _ _ _ (by omega)]; omega), mapF_len _ _ _ (by omega)]
  simp [List.getD_eq_getElem?_getD, h]
theorem mixF_set (ts zs : List Int) (k : Nat) (h : k < zs.length) : (ints (mixF ts zs k)).set k (.int .i64 (findL ts (zs.getD k 0))) = ints (mixF ts zs (k + 1)) := by
  have h1 : (mixF ts zs k).set k (findL ts (zs.getD k 0)) = mixF ts zs (k + 1) := by
    unfold mixF
    rw [List.set_append_right _ _ (by rw [mapF_len _ _ _ (by omega)]; omega), mapF_len _ _ _ (by omega), Nat.sub_self, show zs.drop k = zs[k] :: zs.drop (k + 1) from List.drop_eq_getElem_cons h]
    have : mapF ts zs (k + 1) = mapF ts zs k ++ [findL ts (zs.getD k 0)] := by
      unfold mapF; rw [List.take_succ_eq_append_getElem h, List.map_append]; simp [List.getD_eq_getElem?_getD, h]
    rw [this]; simp [List.getD_eq_getElem?_getD, h, -List.getElem_cons_drop]
  rw [← h1]; unfold ints; rw [List.map_set]
/-- five cells stored -/
def put5 (w : World) (b : Nat) (x0 x1 x2 x3 x4 : Value) : World := ((((w.setCell ⟨b, 0, none⟩ x0).setCell ⟨b, 1, none⟩ x1).setCell ⟨b, 2, none⟩ x2).setCell ⟨b, 3, none⟩ x3).setCell ⟨b, 4, none⟩ x4
theorem put5_b5 {w : World} {b : Nat} {x0 x1 x2 x3 x4 y0 y1 y2 y3 y4 : Value} (h : B5 w b y0 y1 y2 y3 y4) (hf : ∀ k, w.frozen? ⟨b, k, none⟩ = false) : B5 (put5 w b x0 x1 x2 x3 x4) b x0 x1 x2 x3 x4 ∧ ∀ k, (put5 w b x0 x1 x2 x3 x4).frozen? ⟨b, k, none⟩ = false := by
  obtain ⟨h0, h1, h2, h3, h4⟩ := h
  have f0 := hf 0
  have f1 := hf 1
  have f2 := hf 2
  have f3 := hf 3
  have f4 := hf 4
  unfold put5 B5
  refine ⟨⟨?_, ?_, ?_, ?_, ?_⟩, fun k => ?_⟩
  · go_simp
  · go_simp
  · go_simp
  · go_simp
  · go_simp
  · have := hf k
    go_simp
theorem put5_blk (w : World) (b : Nat) (x0 x1 x2 x3 x4 : Value) (k : Nat) (h : k ≠ b) : (put5 w b x0 x1 x2 x3 x4).heap[k]? = w.heap[k]? := by
  unfold put5
  rw [Below.heap_setCell _ _ _ k h, Below.heap_setCell _ _ _ k h, Below.heap_setCell _ _ _ k h, Below.heap_setCell _ _ _ k h, Below.heap_setCell _ _ _ k h]
theorem put5_bk {w0 w : World} (h : BK w0 w) (b : Nat) (hb : w0.heap.size ≤ b) (x0 x1 x2 x3 x4 : Value) : BK w0 (put5 w b x0 x1 x2 x3 x4) :=
  bk_set (bk_set (bk_set (bk_set (bk_set h _ _ hb) _ _ hb) _ _ hb) _ _ hb) _ _ hb
set_option maxRecDepth 100000 in
set_option maxHeartbeats 1000000 in
theorem refcanon (op wd vl : Int) (name : ByteArray) (p q : Option Addr) (c cq : Nat) (zs ts : List Int) (w : World) (hr : Ra w p zs) (hn : p = none → c = 0) (hq : Ra w q ts) (hl : zs.length ≤ 1000) :
    Calls Tryd.prog 22 #[.agg #[.int .i64 op, .int .i64 wd, .int .u64 vl, .string name, .slice p zs.length c], .slice q ts.length cq] w fun e w' => ∃ p' c', e = .returned (.agg #[.int .i64 op, .int .i64 wd, .int .u64 vl, .string name, .slice p' zs.length c']) ∧ w'.ownsRow w.heap.size 3 1 (.slice p' zs.length c') zs.length (ints (mapF ts zs zs.length)) ∧ BK w w' := by
  have hk0 : BK w ((w.alloc (.cells #[.int .i64 op, .int .i64 wd, .int .u64 vl, .string name, .slice p zs.length c] 26)).alloc (.cells #[.int .i64 0, .int .i64 0, .int .u64 0, .string ⟨#[]⟩, .slice none 0 0] 26)) := bk_alloc (bk_alloc (BK.refl w) _) _
  have hx := (b5_new w (.int .i64 op) (.int .i64 wd) (.int .u64 vl) (.string name) (.slice p zs.length c) 26).keep (bk_alloc (BK.refl _) (.cells #[.int .i64 0, .int .i64 0, .int .u64 0, .string ⟨#[]⟩, .slice none 0 0] 26)) (by simp)
  have hfx := fz_keep (fz_new w #[.int .i64 op, .int .i64 wd, .int .u64 vl, .string name, .slice p zs.length c] 26) (bk_alloc (BK.refl _) (.cells #[.int .i64 0, .int .i64 0, .int .u64 0, .string ⟨#[]⟩, .slice none 0 0] 26)) (by simp)
  have hy := b5_new (w.alloc (.cells #[.int .i64 op, .int .i64 wd, .int .u64 vl, .string name, .slice p zs.length c] 26)) (.int .i64 0) (.int .i64 0) (.int .u64 0) (.string ⟨#[]⟩) (.slice none 0 0) 26
  have hfy := fz_new (w.alloc (.cells #[.int .i64 op, .int .i64 wd, .int .u64 vl, .string name, .slice p zs.length c] 26)) #[.int .i64 0, .int .i64 0, .int .u64 0, .string ⟨#[]⟩, .slice none 0 0] 26
  have hsz : ((w.alloc (.cells #[.int .i64 op, .int .i64 wd, .int .u64 vl, .string name, .slice p zs.length c] 26)).alloc (.cells #[.int .i64 0, .int .i64 0, .int .u64 0, .string ⟨#[]⟩, .slice none 0 0] 26)).heap.size = w.heap.size + 2 := by simp
  rw [show (w.alloc (.cells #[.int .i64 op, .int .i64 wd, .int .u64 vl, .string name, .slice p zs.length c] 26)).heap.size = w.heap.size + 1 by simp] at hy hfy
  have hra := hr.keep hk0
  have HQ := Lib.hid (fun wc (hb : BK w wc) => hq.keep hb)
  clear hr hq
  go_enter Tryd.func22, Tryd.ntmps22
  go_wp2_with fail
  generalize (w.alloc (.cells #[.int .i64 op, .int .i64 wd, .int .u64 vl, .string name, .slice p zs.length c] 26)).alloc (.cells #[.int .i64 0, .int .i64 0, .int .u64 0, .string ⟨#[]⟩, .slice none 0 0] 26) = w0 at hk0 hx hfx hy hfy hsz hra ⊢
  obtain ⟨x0, x1, x2, x3, x4⟩ := hx
  have HK0 := Lib.hid hk0
  have HY := Lib.hid (And.intro hy (And.intro hfx hfy))
  have Hz := Lib.hid hsz
  have HX := Lib.hid (And.intro x0 (And.intro x1 (And.intro x2 (And.intro x3 x4))))
  clear hk0 hy hfx hfy hsz x0 x1 x2 x3 x4
  refine (refcopy_any op wd vl name p c zs w0 hra hl hn).mono ?_
  rintro e w1 ⟨p1, c1, rfl, ho, hb⟩
  clear hra
  obtain ⟨x0, x1, x2, x3, x4⟩ := (show B5 w0 w.heap.size (.int .i64 op) (.int .i64 wd) (.int .u64 vl) (.string name) (.slice p zs.length c) from HX.out).keep hb (by have := Hz.out; omega)
  obtain ⟨y0, y1, y2, y3, y4⟩ := HY.out.1.keep hb (by have := Hz.out; omega)
  have fx := fz_keep HY.out.2.1 hb (by have := Hz.out; omega)
  have fy := fz_keep HY.out.2.2 hb (by have := Hz.out; omega)
  have HO := Lib.hid ho
  have K1 := Lib.hid (bk_tr HK0.out hb)
  have S1 := Lib.hid (bk_size hb)
  clear ho hb
  go_wp2_with fail
  rw [show ((((w1.setCell ⟨w.heap.size, 0, none⟩ (.int .i64 op)).setCell ⟨w.heap.size, 1, none⟩ (.int .i64 wd)).setCell ⟨w.heap.size, 2, none⟩ (.int .u64 vl)).setCell ⟨w.heap.size, 3, none⟩ (.string name)).setCell ⟨w.heap.size, 4, none⟩ (.slice p1 zs.length c1) = put5 w1 w.heap.size (.int .i64 op) (.int .i64 wd) (.int .u64 vl) (.string name) (.slice p1 zs.length c1) from rfl]
  have hb0 := put5_b5 (x0 := .int .i64 op) (x1 := .int .i64 wd) (x2 := .int .u64 vl) (x3 := .string name) (x4 := .slice p1 zs.length c1) (show B5 w1 w.heap.size (.int .i64 op) (.int .i64 wd) (.int .u64 vl) (.string name) (.slice p zs.length c) from ⟨x0, x1, x2, x3, x4⟩) fx
  have hbl := put5_blk w1 w.heap.size (.int .i64 op) (.int .i64 wd) (.int .u64 vl) (.string name) (.slice p1 zs.length c1)
  have hb1 := B5.at (show B5 w1 (w.heap.size + 1) (.int .i64 0) (.int .i64 0) (.int .u64 0) (.string ⟨#[]⟩) (.slice none 0 0) from ⟨y0, y1, y2, y3, y4⟩) (hbl _ (by omega))
  have hf1 := fz_at fy (hbl _ (by omega))
  have hkk := put5_bk K1.out w.heap.size (Nat.le_refl _) (.int .i64 op) (.int .i64 wd) (.int .u64 vl) (.string name) (.slice p1 zs.length c1)
  have hoo := own_at HO.out (fun j hj => hbl j (by have := (HO.out.lt j hj).1; have := Hz.out; omega))
  clear x0 x1 x2 x3 x4 y0 y1 y2 y3 y4 fx fy hbl
  generalize put5 w1 w.heap.size (.int .i64 op) (.int .i64 wd) (.int .u64 vl) (.string name) (.slice p1 zs.length c1) = w2 at hb0 hb1 hf1 hkk hoo ⊢
  rw [Hz.out] at hoo
  have I0 := Lib.hid (And.intro hb0.1 (And.intro hb1 (And.intro hb0.2 hf1)))
  have O2 := Lib.hid hoo
  have K2 := Lib.hid hkk
  clear hb0 hb1 hf1 hkk hoo
  go_loopw [5] (fun x wr => ∃ k : Nat, k ≤ zs.length ∧ x = .int .i64 k ∧ wr.ownsRow (w.heap.size + 2) 3 1 (.slice p1 zs.length c1) zs.length (ints (mixF ts zs k)) ∧ (B5 wr w.heap.size (.int .i64 op) (.int .i64 wd) (.int .u64 vl) (.string name) (.slice p1 zs.length c1) ∧ B5 wr (w.heap.size + 1) (.int .i64 0) (.int .i64 0) (.int .u64 0) (.string ⟨#[]⟩) (.slice none 0 0) ∧ (∀ k, wr.frozen? ⟨w.heap.size, k, none⟩ = false) ∧ ∀ k, wr.frozen? ⟨w.heap.size + 1, k, none⟩ = false) ∧ BK w wr) (fun x _ => zs.length - (intOf x).toNat)
  case atStart => exact ⟨0, Nat.zero_le _, rfl, by simpa [mixF, mapF] using O2.out, I0.out, K2.out⟩
  case round =>
    obtain ⟨k, hk, rfl, hown, hbx, hkw⟩ := hrel
    have HOw := Lib.hid hown
    have HB := Lib.hid hbx
    have HK := Lib.hid hkw
    by_cases hlt : k < zs.length
    · obtain ⟨g, cap, hs, _⟩ := World.ownsRow.form hown (by omega)
      simp at hs
      obtain ⟨rfl, rfl⟩ := hs
      have hcell : wr.cell? ⟨g, k, none⟩ = some (.int .i64 (zs.getD k 0)) := by
        have := World.ownsRow.cellAt hown k (by omega)
        rw [this]; unfold ints; rw [List.getElem?_map, mixF_at _ _ _ hlt]; rfl
      have hfr := World.ownsRow.frozenAt hown k
      have hset := (World.ownsRow.stored hown k (.int .i64 (findL ts (zs.getD k 0)))).1
      rw [mixF_set ts zs k hlt] at hset
      have hgl := (hown.lt g rfl).1
      obtain ⟨-, -, -, -, x4⟩ := hbx.1
      have HS := Lib.hid hset
      clear hown hbx hkw hset
      generalize zs.getD k 0 = z at hcell HS
      go_wp2_with fail
      go_region_with (go_at_call 21; refine (find21 q cq ts z _ (HQ.out _ (by first | exact HK.out | exact bk_drew HK.out))).mono ?_; rintro e w' ⟨rfl, rfl⟩)
      all_goals
        go_wp2_with fail
        go_roundw
        case rel =>
          refine ⟨k + 1, by omega, by go_num, HS.out, ?_, ?_⟩
          · have n1 : w.heap.size ≠ g := by omega
            have n2 : w.heap.size + 1 ≠ g := by omega
            refine ⟨HB.out.1.at ?_, HB.out.2.1.at ?_, fz_at HB.out.2.2.1 ?_, fz_at HB.out.2.2.2 ?_⟩
            · exact Below.heap_setCell wr _ _ _ n1
            · exact Below.heap_setCell wr _ _ _ n2
            · exact Below.heap_setCell wr _ _ _ n1
            · exact Below.heap_setCell wr _ _ _ n2
          · first | exact bk_set (bk_drew HK.out) _ _ (by show w.heap.size ≤ g; omega) | exact bk_drew (bk_set HK.out _ _ (by show w.heap.size ≤ g; omega))
        case measure => simp [intOf]; omega
    · obtain rfl : k = zs.length := by omega
      obtain ⟨⟨x0, x1, x2, x3, x4⟩, ⟨y0, y1, y2, y3, y4⟩, fx, fy⟩ := hbx
      clear hown hkw
      go_wp2_with fail
      refine bodyPost_ret (v := .agg #[.int .i64 op, .int .i64 wd, .int .u64 vl, .string name, .slice p1 zs.length c1]) (by simp [results, Tryd.results22, go_sem, y0, y1, y2, y3, y4]) rfl ⟨p1, c1, rfl, ?_, ?_⟩
      · have h := HOw.out
        rw [show mixF ts zs zs.length = mapF ts zs zs.length by unfold mixF; rw [List.drop_length, List.append_nil]] at h
        refine own_mono (B := w.heap.size + 2) ?_ (by omega)
        exact own_set (own_set (own_set (own_set (own_set h _ _ (by simp; try omega)) _ _ (by simp; try omega)) _ _ (by simp; try omega)) _ _ (by simp; try omega)) _ _ (by simp; try omega)
      · exact bk_set (bk_set (bk_set (bk_set (bk_set HK.out _ _ (by simp; try omega)) _ _ (by simp; try omega)) _ _ (by simp; try omega)) _ _ (by simp; try omega)) _ _ (by simp; try omega)
end Go.Proofs.YtclefcjojlkcnaaDoor
