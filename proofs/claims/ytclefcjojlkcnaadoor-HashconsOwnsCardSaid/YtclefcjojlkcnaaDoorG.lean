/- Canon with the function of the document's example. -/
import Derived.Test.YtclefcjojlkcnaaDoorF
namespace Go.Proofs.YtclefcjojlkcnaaDoor
open Go.RowKit Go.Maps
set_option linter.unusedVariables false
set_option linter.unusedSimpArgs false
theorem ret_int {k : IntKind} {a b : Int} (h : a = b) : Ending.returned (.int k a) = .returned (.int k b) := by rw [h]
def g4 (z : Int) : Int := if z = 4 then 1 else z
set_option maxHeartbeats 400000 in
theorem fun34 (z : Int) (w : World) : Calls Tryd.prog 34 #[.int .i64 z] w fun e w' => e = .returned (.int .i64 (g4 z)) ∧ w = w' := by
  by_cases h : z = 4
  · subst h
    go_enter Tryd.func34, Tryd.ntmps34
    go_wp2
    go_ret
    exact ⟨rfl, rfl⟩
  · have hd : (z == 4) = false := by simpa using h
    have hg := Lib.hid (show g4 z = z from if_neg h)
    go_enter Tryd.func34, Tryd.ntmps34
    go_wp2
    go_ret
    exact ⟨ret_int hg.out.symm, rfl⟩
theorem info3 : (Tryd.prog.info? 3).map (fun i => (i.zero, i.size, i.bytes)) = some (some (.int .i64 0), 1, 8) := by kernel_rfl
def mapL (zs : List Int) (k : Nat) : List Int := (List.range k).map fun j => g4 (zs.getD j 0)
theorem mapL_succ (zs : List Int) (k : Nat) : ints (mapL zs (k + 1)) = ints (mapL zs k) ++ [.int .i64 (g4 (zs.getD k 0))] := by
  unfold mapL ints; rw [List.range_succ, List.map_append, List.map_append]; rfl
theorem mapL_len (zs : List Int) (k : Nat) : (mapL zs k).length = k := by simp [mapL]
set_option maxRecDepth 100000 in
set_option maxHeartbeats 1000000 in
theorem canon_any (op wd vl : Int) (name : ByteArray) (p : Option Addr) (c : Nat) (zs : List Int) (w : World) (h : Ra w p zs) (hl : zs.length ≤ 1000) :
    Calls Tryd.prog 19 #[.agg #[.int .i64 op, .int .i64 wd, .int .u64 vl, .string name, .slice p zs.length c], .func (Fn.func 34) #[] #[]] w fun e w' => ∃ p' c', e = .returned (.agg #[.int .i64 op, .int .i64 wd, .int .u64 vl, .string name, .slice p' zs.length c']) ∧ w'.ownsRow w.heap.size 3 1 (.slice p' zs.length c') zs.length (ints (mapL zs zs.length)) ∧ BK w w' := by
  obtain ⟨i3, hi3, hz3, hs3, hb3⟩ := info_parts info3
  have hk0 : BK w ((w.alloc (.cells #[.int .i64 op, .int .i64 wd, .int .u64 vl, .string name, .slice p zs.length c] 26)).alloc (.cells #[.int .i64 0, .int .i64 0, .int .u64 0, .string ⟨#[]⟩, .slice none 0 0] 26)) := bk_alloc (bk_alloc (BK.refl w) _) _
  have hx := (b5_new w (.int .i64 op) (.int .i64 wd) (.int .u64 vl) (.string name) (.slice p zs.length c) 26).keep (bk_alloc (BK.refl _) (.cells #[.int .i64 0, .int .i64 0, .int .u64 0, .string ⟨#[]⟩, .slice none 0 0] 26)) (by simp)
  have hfx := fz_keep (fz_new w #[.int .i64 op, .int .i64 wd, .int .u64 vl, .string name, .slice p zs.length c] 26) (bk_alloc (BK.refl _) (.cells #[.int .i64 0, .int .i64 0, .int .u64 0, .string ⟨#[]⟩, .slice none 0 0] 26)) (by simp)
  have hy := b5_new (w.alloc (.cells #[.int .i64 op, .int .i64 wd, .int .u64 vl, .string name, .slice p zs.length c] 26)) (.int .i64 0) (.int .i64 0) (.int .u64 0) (.string ⟨#[]⟩) (.slice none 0 0) 26
  have hfy := fz_new (w.alloc (.cells #[.int .i64 op, .int .i64 wd, .int .u64 vl, .string name, .slice p zs.length c] 26)) #[.int .i64 0, .int .i64 0, .int .u64 0, .string ⟨#[]⟩, .slice none 0 0] 26
  have hsz : ((w.alloc (.cells #[.int .i64 op, .int .i64 wd, .int .u64 vl, .string name, .slice p zs.length c] 26)).alloc (.cells #[.int .i64 0, .int .i64 0, .int .u64 0, .string ⟨#[]⟩, .slice none 0 0] 26)).heap.size = w.heap.size + 2 := by simp
  have hra := h.keep hk0
  rw [show (w.alloc (.cells #[.int .i64 op, .int .i64 wd, .int .u64 vl, .string name, .slice p zs.length c] 26)).heap.size = w.heap.size + 1 by simp] at hy hfy
  have hnf : ∀ w, (binOp .eql 36 (.func (Fn.func 34) #[] #[]) .nilFunc).run Tryd.prog w = .ok (.bool false) w := fun w => by kernel_rfl
  clear h
  go_enter Tryd.func19, Tryd.ntmps19
  go_wp2_with fail
  generalize (w.alloc (.cells #[.int .i64 op, .int .i64 wd, .int .u64 vl, .string name, .slice p zs.length c] 26)).alloc (.cells #[.int .i64 0, .int .i64 0, .int .u64 0, .string ⟨#[]⟩, .slice none 0 0] 26) = w0 at hk0 hx hfx hy hfy hsz hra ⊢
  clear hnf
  have HX := Lib.hid (fun wc (hb : BK w0 wc) => And.intro (hx.keep hb (by omega)) (And.intro (hy.keep hb (by omega)) (And.intro (fz_keep hfx hb (by omega)) (fz_keep hfy hb (by omega)))))
  have RA := Lib.hid hra
  have HK0 := Lib.hid hk0
  have Hz := Lib.hid hsz
  clear hk0 hx hfx hy hfy hsz hra
  go_loopw [5, 13] (fun v x wr => ∃ k : Nat, k ≤ zs.length ∧ x = .int .i64 k ∧ wr.ownsRow w0.heap.size 3 1 v k (ints (mapL zs k)) ∧ BK w0 wr) (fun _ x _ => zs.length - (intOf x).toNat)
  case atStart => exact ⟨0, Nat.zero_le _, rfl, World.ownsRow_nil _ _ _ _, BK.refl _⟩
  case round =>
    obtain ⟨k, hk, rfl, hown, hkw⟩ := hrel
    have Ho := Lib.hid hown
    have HK := Lib.hid hkw
    by_cases hlt : k < zs.length
    · obtain ⟨b, off, rfl, hlb, hcell⟩ := RA.out (by omega)
      have d := ((show Below w0.heap.size w0 wr from hkw).cell (p := ⟨b, off + k, none⟩) hlb).trans (hcell k hlt)
      have hms := Lib.hid (mapL_succ zs k)
      have hsz2 := bk_size hkw
      clear hcell hown hkw
      generalize zs.getD k 0 = z at d hms
      go_wp2_with fail
      refine (fun34 z _).mono ?_
      rintro e w' ⟨rfl, rfl⟩
      go_wp2_with (at_builtin; go_must (refine wpList_append_lies _ rfl _ _ 24 rfl w0.heap.size 3 i3 (.int .i64 0) 1 8 Tryd.underlying24 hi3 hz3 hs3 hb3 rfl (by decide) _ k _ rfl (Ho.out.alloc _) ⟨wr.heap.size, 0, none⟩ 1 1 [.int .i64 (g4 z)] rfl rfl (World.news_of_block (cs := #[.int .i64 (g4 z)]) (t := 3) (fr := (0, 0)) (heap_alloc_new wr _)) (by simp [Value.oneCell']) (by decide) (by unfold maxLen; omega) (by omega) (by simp; omega) (wr.heap.size + 1) (by simp) ?_))
      intro g9 c9 w9 hown9 hgrow hat hlt9
      have hr9 : w9.ownsRow w0.heap.size 3 1 (.slice (some ⟨g9, 0, none⟩) (k + 1) c9) (k + 1) (ints (mapL zs (k + 1))) := by rw [hms.out]; exact hown9
      have hb9 : BK w0 w9 := ((show Below w0.heap.size w0 wr from HK.out).alloc hsz2 _).grown hgrow (by simp; omega) (fun r hr => (Ho.out.lt r hr).1)
      have HR9 := Lib.hid hr9
      have HB9 := Lib.hid hb9
      clear hown9 hgrow hat hlt9 hr9 hb9 d
      go_wp2_with fail
      go_roundw
      case rel => exact ⟨k + 1, by omega, by go_num, HR9.out, HB9.out⟩
      case measure => simp [intOf]; omega
    · obtain rfl : k = zs.length := by omega
      obtain ⟨p1, c1, rfl⟩ := own_shape hown
      obtain ⟨⟨x0, x1, x2, x3, x4⟩, ⟨y0, y1, y2, y3, y4⟩, fx, fy⟩ := HX.out _ hkw
      clear hown hkw
      go_wp2_with fail
      refine bodyPost_ret (v := .agg #[.int .i64 op, .int .i64 wd, .int .u64 vl, .string name, .slice p1 zs.length c1]) (by simp [results, Tryd.results19, go_sem, y0, y1, y2, y3, y4]) rfl ⟨p1, c1, rfl, ?_, ?_⟩
      · have hz := Hz.out
        refine own_mono (B := w0.heap.size) ?_ (by omega)
        exact own_set (own_set (own_set (own_set (own_set (own_set Ho.out _ _ (by simp; omega)) _ _ (by simp; omega)) _ _ (by simp; omega)) _ _ (by simp; omega)) _ _ (by simp; omega)) _ _ (by simp; omega)
      · exact bk_set (bk_set (bk_set (bk_set (bk_set (bk_set (bk_tr HK0.out HK.out) _ _ (by simp)) _ _ (by simp)) _ _ (by simp)) _ _ (by simp)) _ _ (by simp)) _ _ (by simp)
end Go.Proofs.YtclefcjojlkcnaaDoor
