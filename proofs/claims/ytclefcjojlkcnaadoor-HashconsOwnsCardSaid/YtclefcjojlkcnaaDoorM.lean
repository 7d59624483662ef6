/- Compare and Same. -/
import Derived.Test.YtclefcjojlkcnaaDoorL
namespace Go.Proofs.YtclefcjojlkcnaaDoor
open Go.RowKit
set_option linter.unusedVariables false
set_option linter.unusedSimpArgs false
def cmpN (op wd vl op' wd' vl' : Int) (nm nm' : ByteArray) (zs ys : List Int) : Int := nz [ci op op', ci wd wd', ci vl vl', cs nm nm', ci zs.length ys.length, sl zs ys]
theorem or_lit (r0 r1 r2 r3 r4 r5 : Int) (w : World) : Calls Tryd.prog 35 #[.slice (some ⟨w.heap.size, 0, none⟩) 6 6] (w.alloc (.cells #[.int .i64 r0, .int .i64 r1, .int .i64 r2, .int .i64 r3, .int .i64 r4, .int .i64 r5] 3)).drew fun e w' => e = .returned (.int .i64 (nz [r0, r1, r2, r3, r4, r5])) ∧ (w.alloc (.cells #[.int .i64 r0, .int .i64 r1, .int .i64 r2, .int .i64 r3, .int .i64 r4, .int .i64 r5] 3)).drew = w' := by
  refine or35 w.heap.size 6 6 [r0, r1, r2, r3, r4, r5] _ rfl (by omega) (fun k hk => ?_)
  have hk6 : k < 6 := hk
  show (w.alloc (.cells #[.int .i64 r0, .int .i64 r1, .int .i64 r2, .int .i64 r3, .int .i64 r4, .int .i64 r5] 3)).cell? _ = _
  rw [World.cell?_alloc_new]
  match k, hk6 with
  | 0, _ => rfl
  | 1, _ => rfl
  | 2, _ => rfl
  | 3, _ => rfl
  | 4, _ => rfl
  | 5, _ => rfl
set_option maxRecDepth 100000 in
set_option maxHeartbeats 1000000 in
theorem cmp13 (op wd vl op' wd' vl' : Int) (nm nm' : ByteArray) (p q : Option Addr) (c d : Nat) (zs ys : List Int) (w : World) (hz : zs.length ≤ 1000) (hy : ys.length ≤ 1000) (h : Ra w p zs) (h' : Ra w q ys) : Calls Tryd.prog 13 #[.agg #[.int .i64 op, .int .i64 wd, .int .u64 vl, .string nm, .slice p zs.length c], .agg #[.int .i64 op', .int .i64 wd', .int .u64 vl', .string nm', .slice q ys.length d]] w fun e w' => e = .returned (.int .i64 (cmpN op wd vl op' wd' vl' nm nm' zs ys)) ∧ BK w w' := by
  have hk0 : BK w ((w.alloc (.cells #[.int .i64 op, .int .i64 wd, .int .u64 vl, .string nm, .slice p zs.length c] 26)).alloc (.cells #[.int .i64 op', .int .i64 wd', .int .u64 vl', .string nm', .slice q ys.length d] 26)) := bk_alloc (bk_alloc (BK.refl w) _) _
  have hx := (b5_new w (.int .i64 op) (.int .i64 wd) (.int .u64 vl) (.string nm) (.slice p zs.length c) 26).keep (bk_alloc (BK.refl _) (.cells #[.int .i64 op', .int .i64 wd', .int .u64 vl', .string nm', .slice q ys.length d] 26)) (by simp)
  have hy5 := b5_new (w.alloc (.cells #[.int .i64 op, .int .i64 wd, .int .u64 vl, .string nm, .slice p zs.length c] 26)) (.int .i64 op') (.int .i64 wd') (.int .u64 vl') (.string nm') (.slice q ys.length d) 26
  have hsz : ((w.alloc (.cells #[.int .i64 op, .int .i64 wd, .int .u64 vl, .string nm, .slice p zs.length c] 26)).alloc (.cells #[.int .i64 op', .int .i64 wd', .int .u64 vl', .string nm', .slice q ys.length d] 26)).heap.size = w.heap.size + 2 := by simp
  have hra := h.keep hk0
  have hrb := h'.keep hk0
  rw [show (w.alloc (.cells #[.int .i64 op, .int .i64 wd, .int .u64 vl, .string nm, .slice p zs.length c] 26)).heap.size = w.heap.size + 1 by simp] at hy5
  clear h h'
  go_enter Tryd.func13, Tryd.ntmps13
  go_wp2_with fail
  generalize (w.alloc (.cells #[.int .i64 op, .int .i64 wd, .int .u64 vl, .string nm, .slice p zs.length c] 26)).alloc (.cells #[.int .i64 op', .int .i64 wd', .int .u64 vl', .string nm', .slice q ys.length d] 26) = w0 at hk0 hx hy5 hsz hra hrb ⊢
  have KC := Lib.hid (fun wc (hb : BK w0 wc) => And.intro (hx.keep hb (by omega)) (hy5.keep hb (by omega)))
  have RA := Lib.hid hra
  have RB := Lib.hid hrb
  have HK0 := Lib.hid hk0
  have k0 := BK.refl w0
  clear hk0 hsz hra hrb
  obtain ⟨x0, x1, x2, x3, x4⟩ := hx
  obtain ⟨y0, y1, y2, y3, y4⟩ := hy5
  go_region_held3 (fun w' => w'.cell? ⟨w.heap.size, 0, none⟩ = some (.int .i64 op) ∧ w'.cell? ⟨w.heap.size, 1, none⟩ = some (.int .i64 wd) ∧ w'.cell? ⟨w.heap.size, 2, none⟩ = some (.int .u64 vl) ∧ w'.cell? ⟨w.heap.size, 3, none⟩ = some (.string nm) ∧ w'.cell? ⟨w.heap.size, 4, none⟩ = some (.slice p zs.length c) ∧
      w'.cell? ⟨w.heap.size + 1, 0, none⟩ = some (.int .i64 op') ∧ w'.cell? ⟨w.heap.size + 1, 1, none⟩ = some (.int .i64 wd') ∧ w'.cell? ⟨w.heap.size + 1, 2, none⟩ = some (.int .u64 vl') ∧ w'.cell? ⟨w.heap.size + 1, 3, none⟩ = some (.string nm') ∧ w'.cell? ⟨w.heap.size + 1, 4, none⟩ = some (.slice q ys.length d))
    (go_keep)
    ((first | (go_at_call 35; refine (or_lit _ _ _ _ _ _ _).mono ?_; rintro e w' ⟨rfl, rfl⟩) | (go_at_call 40; refine (sl40 p q c d zs ys _ hz hy (RA.out.keep (bk_drew k0)) (RB.out.keep (bk_drew k0))).mono ?_; rintro e w' ⟨rfl, rfl⟩) | (go_at_call 39; refine (cmp39 _ _ _).mono ?_; rintro e w' ⟨rfl, rfl⟩) | (go_at_call 38; refine (cmp38 _ _ _).mono ?_; rintro e w' ⟨rfl, rfl⟩) | (go_at_call 37; refine (cmp37 _ _ _).mono ?_; rintro e w' ⟨rfl, rfl⟩) | (go_at_call 36; refine (cmp36 _ _ _).mono ?_; rintro e w' ⟨rfl, rfl⟩)))
  all_goals go_wp2_with fail
  all_goals go_ret
  all_goals exact ⟨rfl, bk_drew (bk_alloc HK0.out _)⟩
set_option maxHeartbeats 400000 in
theorem same15 (op wd vl op' wd' vl' : Int) (nm nm' : ByteArray) (p q : Option Addr) (c d : Nat) (zs ys : List Int) (w : World) (hz : zs.length ≤ 1000) (hy : ys.length ≤ 1000) (h : Ra w p zs) (h' : Ra w q ys) : Calls Tryd.prog 15 #[.agg #[.int .i64 op, .int .i64 wd, .int .u64 vl, .string nm, .slice p zs.length c], .agg #[.int .i64 op', .int .i64 wd', .int .u64 vl', .string nm', .slice q ys.length d]] w fun e w' => e = .returned (.bool (cmpN op wd vl op' wd' vl' nm nm' zs ys == 0)) ∧ BK w w' := by
  have hk0 : BK w ((w.alloc (.cells #[.int .i64 op, .int .i64 wd, .int .u64 vl, .string nm, .slice p zs.length c] 26)).alloc (.cells #[.int .i64 op', .int .i64 wd', .int .u64 vl', .string nm', .slice q ys.length d] 26)) := bk_alloc (bk_alloc (BK.refl w) _) _
  have hx := (b5_new w (.int .i64 op) (.int .i64 wd) (.int .u64 vl) (.string nm) (.slice p zs.length c) 26).keep (bk_alloc (BK.refl _) (.cells #[.int .i64 op', .int .i64 wd', .int .u64 vl', .string nm', .slice q ys.length d] 26)) (by simp)
  have hy5 := b5_new (w.alloc (.cells #[.int .i64 op, .int .i64 wd, .int .u64 vl, .string nm, .slice p zs.length c] 26)) (.int .i64 op') (.int .i64 wd') (.int .u64 vl') (.string nm') (.slice q ys.length d) 26
  have hsz : ((w.alloc (.cells #[.int .i64 op, .int .i64 wd, .int .u64 vl, .string nm, .slice p zs.length c] 26)).alloc (.cells #[.int .i64 op', .int .i64 wd', .int .u64 vl', .string nm', .slice q ys.length d] 26)).heap.size = w.heap.size + 2 := by simp
  have hra := h.keep hk0
  have hrb := h'.keep hk0
  rw [show (w.alloc (.cells #[.int .i64 op, .int .i64 wd, .int .u64 vl, .string nm, .slice p zs.length c] 26)).heap.size = w.heap.size + 1 by simp] at hy5
  clear h h'
  go_enter Tryd.func15, Tryd.ntmps15
  go_wp2_with fail
  generalize (w.alloc (.cells #[.int .i64 op, .int .i64 wd, .int .u64 vl, .string nm, .slice p zs.length c] 26)).alloc (.cells #[.int .i64 op', .int .i64 wd', .int .u64 vl', .string nm', .slice q ys.length d] 26) = w0 at hk0 hx hy5 hsz hra hrb ⊢
  have KC := Lib.hid (fun wc (hb : BK w0 wc) => And.intro (hx.keep hb (by omega)) (hy5.keep hb (by omega)))
  have RA := Lib.hid hra
  have RB := Lib.hid hrb
  have HK0 := Lib.hid hk0
  have k0 := BK.refl w0
  clear hk0 hsz hra hrb
  refine (cmp13 op wd vl op' wd' vl' nm nm' p q c d zs ys w0 hz hy RA.out RB.out).mono ?_
  rintro e w1 ⟨rfl, hb1⟩
  have H1 := Lib.hid (bk_tr HK0.out hb1)
  clear hb1 hx hy5
  generalize hcr : cmpN op wd vl op' wd' vl' nm nm' zs ys = r
  have HC := Lib.hid hcr
  clear hcr
  go_wp2_with fail
  go_ret
  exact ⟨ret_bool (by rw [HC.out]), H1.out⟩
end Go.Proofs.YtclefcjojlkcnaaDoor
