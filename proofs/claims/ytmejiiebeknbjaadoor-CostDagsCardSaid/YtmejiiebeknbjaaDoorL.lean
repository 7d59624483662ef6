/- The example of the document. -/
import Derived.Test.YtmejiiebeknbjaaDoorK
namespace Go.Proofs.YtmejiiebeknbjaaDoor
open Go.RowKit Go.Maps
set_option linter.unusedVariables false
set_option linter.unusedSimpArgs false
def tx : T := .mk 1 8 0 ⟨#[120]⟩ []
def ty : T := .mk 1 8 0 ⟨#[121]⟩ []
def tm : T := .mk 10 8 0 ⟨#[]⟩ [tx, ty]
def ta : T := .mk 8 8 0 ⟨#[]⟩ [tm, tm]
theorem tree7 : treeC (uni 26) ta = 7 := by
  simp only [ta, tm, tx, ty, treeC, treeL, uni_node]
  decide
theorem nxy : tx ≠ ty := by
  intro h
  unfold tx ty at h
  have := (T.mk.inj h).2.2.2.1
  exact absurd (congrArg (fun b => b.data.toList) this) (by decide)
theorem op_ne {a b : T} (h : a.op ≠ b.op) : a ≠ b := fun e => h (by rw [e])
theorem subs4 : subsL [] [ta] = [tx, ty, tm, ta] := by
  have hx : subsT [] tx = [tx] := by unfold tx; rw [subsT_mk, subsL_nil, if_neg (by simp)]; rfl
  have hy : subsT [tx] ty = [tx, ty] := by
    conv => lhs; unfold ty
    rw [subsT_mk, subsL_nil, if_neg (by intro h; rw [List.mem_singleton] at h; exact nxy h.symm)]; rfl
  have hm : subsT [] tm = [tx, ty, tm] := by
    conv => lhs; unfold tm
    rw [subsT_mk, subsL_cons, hx, subsL_cons, hy, subsL_nil, if_neg (by
      intro h
      rcases List.mem_cons.1 h with h | h
      · exact op_ne (a := tm) (b := tx) (by decide) h
      · rw [List.mem_singleton] at h; exact op_ne (a := tm) (b := ty) (by decide) h)]
    rfl
  have hm2 : subsT [tx, ty, tm] tm = [tx, ty, tm] := by
    have hx2 : subsT [tx, ty, tm] tx = [tx, ty, tm] := by
      conv => lhs; arg 2; unfold tx
      rw [subsT_mk, subsL_nil, if_pos (by exact List.mem_cons_self)]
    have hy2 : subsT [tx, ty, tm] ty = [tx, ty, tm] := by
      conv => lhs; arg 2; unfold ty
      rw [subsT_mk, subsL_nil, if_pos (by exact List.mem_cons_of_mem _ List.mem_cons_self)]
    conv => lhs; arg 2; unfold tm
    rw [subsT_mk, subsL_cons, hx2, subsL_cons, hy2, subsL_nil, if_pos (by exact List.mem_cons_of_mem _ (List.mem_cons_of_mem _ List.mem_cons_self))]
  rw [subsL_cons, subsL_nil]
  conv => lhs; unfold ta
  rw [subsT_mk, subsL_cons, hm, subsL_cons, hm2, subsL_nil, if_neg (by
    intro h
    rcases List.mem_cons.1 h with h | h
    · exact op_ne (a := ta) (b := tx) (by decide) h
    · rcases List.mem_cons.1 h with h | h
      · exact op_ne (a := ta) (b := ty) (by decide) h
      · rw [List.mem_singleton] at h; exact op_ne (a := ta) (b := tm) (by decide) h)]
  rfl
theorem dag4 : sumC (uni 26) (subsL [] [ta]) = 4 := by
  rw [subs4]
  simp only [sumC, List.foldl, uni_node]
  decide
theorem five {w' : World} {b : Nat} {x0 x1 x2 x3 x4 : Value} (h : B5 w' b x0 x1 x2 x3 x4) : w'.cell? ⟨b, 0, none⟩ = some x0 ∧ w'.cell? ⟨b, 1, none⟩ = some x1 ∧ w'.cell? ⟨b, 2, none⟩ = some x2 ∧ w'.cell? ⟨b, 3, none⟩ = some x3 ∧ w'.cell? ⟨b, 4, none⟩ = some x4 := h
theorem wfs (op : Int) (h0 : 0 ≤ op) (h1 : op ≤ 100) (nm : ByteArray) (hs : nm.size ≤ 100) : Wf op 8 0 nm := ⟨⟨by omega, by omega⟩, ⟨by omega, by omega⟩, by omega, by unfold maxLen; omega⟩
theorem rows0 (w : World) : Row ((((w.alloc (.cells #[.int .i64 1, .int .i64 8, .int .u64 0, .string ⟨#[120]⟩, .slice none 0 0, .int .i64 1, .int .i64 8, .int .u64 0, .string ⟨#[121]⟩, .slice none 0 0] 34)).alloc (.cells #[.int .i64 10, .int .i64 8, .int .u64 0, .string ⟨#[]⟩, .slice (some ⟨w.heap.size, 0, none⟩) 2 2] 34)).alloc (.cells #[.int .i64 10, .int .i64 8, .int .u64 0, .string ⟨#[]⟩, .slice (some ⟨w.heap.size, 0, none⟩) 2 2, .int .i64 10, .int .i64 8, .int .u64 0, .string ⟨#[]⟩, .slice (some ⟨w.heap.size, 0, none⟩) 2 2] 34)).alloc (.cells #[.int .i64 8, .int .i64 8, .int .u64 0, .string ⟨#[]⟩, .slice (some ⟨w.heap.size + 1 + 1, 0, none⟩) 2 2] 34)) (some ⟨w.heap.size + 1 + 1, 0, none⟩) 2 [tm, tm] := by
  have s1 : (w.alloc (.cells #[.int .i64 1, .int .i64 8, .int .u64 0, .string ⟨#[120]⟩, .slice none 0 0, .int .i64 1, .int .i64 8, .int .u64 0, .string ⟨#[121]⟩, .slice none 0 0] 34)).heap.size = w.heap.size + 1 := by simp
  have s2 : ((w.alloc (.cells #[.int .i64 1, .int .i64 8, .int .u64 0, .string ⟨#[120]⟩, .slice none 0 0, .int .i64 1, .int .i64 8, .int .u64 0, .string ⟨#[121]⟩, .slice none 0 0] 34)).alloc (.cells #[.int .i64 10, .int .i64 8, .int .u64 0, .string ⟨#[]⟩, .slice (some ⟨w.heap.size, 0, none⟩) 2 2] 34)).heap.size = w.heap.size + 1 + 1 := by simp
  have s3 : (((w.alloc (.cells #[.int .i64 1, .int .i64 8, .int .u64 0, .string ⟨#[120]⟩, .slice none 0 0, .int .i64 1, .int .i64 8, .int .u64 0, .string ⟨#[121]⟩, .slice none 0 0] 34)).alloc (.cells #[.int .i64 10, .int .i64 8, .int .u64 0, .string ⟨#[]⟩, .slice (some ⟨w.heap.size, 0, none⟩) 2 2] 34)).alloc (.cells #[.int .i64 10, .int .i64 8, .int .u64 0, .string ⟨#[]⟩, .slice (some ⟨w.heap.size, 0, none⟩) 2 2, .int .i64 10, .int .i64 8, .int .u64 0, .string ⟨#[]⟩, .slice (some ⟨w.heap.size, 0, none⟩) 2 2] 34)).heap.size = w.heap.size + 1 + 1 + 1 := by simp
  have ha : ((((w.alloc (.cells #[.int .i64 1, .int .i64 8, .int .u64 0, .string ⟨#[120]⟩, .slice none 0 0, .int .i64 1, .int .i64 8, .int .u64 0, .string ⟨#[121]⟩, .slice none 0 0] 34)).alloc (.cells #[.int .i64 10, .int .i64 8, .int .u64 0, .string ⟨#[]⟩, .slice (some ⟨w.heap.size, 0, none⟩) 2 2] 34)).alloc (.cells #[.int .i64 10, .int .i64 8, .int .u64 0, .string ⟨#[]⟩, .slice (some ⟨w.heap.size, 0, none⟩) 2 2, .int .i64 10, .int .i64 8, .int .u64 0, .string ⟨#[]⟩, .slice (some ⟨w.heap.size, 0, none⟩) 2 2] 34)).alloc (.cells #[.int .i64 8, .int .i64 8, .int .u64 0, .string ⟨#[]⟩, .slice (some ⟨w.heap.size + 1 + 1, 0, none⟩) 2 2] 34)).heap[w.heap.size]? = some (.cells #[.int .i64 1, .int .i64 8, .int .u64 0, .string ⟨#[120]⟩, .slice none 0 0, .int .i64 1, .int .i64 8, .int .u64 0, .string ⟨#[121]⟩, .slice none 0 0] 34 (0, 0)) := by
    rw [heap_alloc_old _ _ (by rw [s3]; omega), heap_alloc_old _ _ (by rw [s2]; omega), heap_alloc_old _ _ (by rw [s1]; omega)]
    exact heap_alloc_new w _
  have hc : ((((w.alloc (.cells #[.int .i64 1, .int .i64 8, .int .u64 0, .string ⟨#[120]⟩, .slice none 0 0, .int .i64 1, .int .i64 8, .int .u64 0, .string ⟨#[121]⟩, .slice none 0 0] 34)).alloc (.cells #[.int .i64 10, .int .i64 8, .int .u64 0, .string ⟨#[]⟩, .slice (some ⟨w.heap.size, 0, none⟩) 2 2] 34)).alloc (.cells #[.int .i64 10, .int .i64 8, .int .u64 0, .string ⟨#[]⟩, .slice (some ⟨w.heap.size, 0, none⟩) 2 2, .int .i64 10, .int .i64 8, .int .u64 0, .string ⟨#[]⟩, .slice (some ⟨w.heap.size, 0, none⟩) 2 2] 34)).alloc (.cells #[.int .i64 8, .int .i64 8, .int .u64 0, .string ⟨#[]⟩, .slice (some ⟨w.heap.size + 1 + 1, 0, none⟩) 2 2] 34)).heap[w.heap.size + 1 + 1]? = some (.cells #[.int .i64 10, .int .i64 8, .int .u64 0, .string ⟨#[]⟩, .slice (some ⟨w.heap.size, 0, none⟩) 2 2, .int .i64 10, .int .i64 8, .int .u64 0, .string ⟨#[]⟩, .slice (some ⟨w.heap.size, 0, none⟩) 2 2] 34 (0, 0)) := by
    rw [heap_alloc_old _ _ (by rw [s3]; omega), ← s2]
    exact heap_alloc_new _ _
  generalize ((((w.alloc (.cells #[.int .i64 1, .int .i64 8, .int .u64 0, .string ⟨#[120]⟩, .slice none 0 0, .int .i64 1, .int .i64 8, .int .u64 0, .string ⟨#[121]⟩, .slice none 0 0] 34)).alloc (.cells #[.int .i64 10, .int .i64 8, .int .u64 0, .string ⟨#[]⟩, .slice (some ⟨w.heap.size, 0, none⟩) 2 2] 34)).alloc (.cells #[.int .i64 10, .int .i64 8, .int .u64 0, .string ⟨#[]⟩, .slice (some ⟨w.heap.size, 0, none⟩) 2 2, .int .i64 10, .int .i64 8, .int .u64 0, .string ⟨#[]⟩, .slice (some ⟨w.heap.size, 0, none⟩) 2 2] 34)).alloc (.cells #[.int .i64 8, .int .i64 8, .int .u64 0, .string ⟨#[]⟩, .slice (some ⟨w.heap.size + 1 + 1, 0, none⟩) 2 2] 34)) = W at ha hc ⊢
  have hxy : Row W (some ⟨w.heap.size, 0, none⟩) 2 [tx, ty] := by
    refine .inr ⟨_, _, rfl, ?_, by unfold maxLen; simp⟩
    rw [AtL, AtL, AtL]
    refine ⟨?_, ?_, trivial⟩
    · unfold tx
      rw [at_mk]
      refine ⟨none, 0, ⟨?_, ?_, ?_, ?_, ?_⟩, wfs 1 (by omega) (by omega) _ (by decide), .inl ⟨rfl, fun _ => rfl⟩⟩
      all_goals rw [cell_of_row W _ _ _ _ _ ha]; rfl
    · unfold ty
      rw [at_mk]
      refine ⟨none, 0, ⟨?_, ?_, ?_, ?_, ?_⟩, wfs 1 (by omega) (by omega) _ (by decide), .inl ⟨rfl, fun _ => rfl⟩⟩
      all_goals rw [cell_of_row W _ _ _ _ _ ha]; rfl
  refine .inr ⟨_, _, rfl, ?_, by unfold maxLen; simp⟩
  rw [AtL, AtL, AtL]
  refine ⟨?_, ?_, trivial⟩
  · unfold tm
    rw [at_mk]
    refine ⟨some ⟨w.heap.size, 0, none⟩, 2, ⟨?_, ?_, ?_, ?_, ?_⟩, wfs 10 (by omega) (by omega) _ (by decide), hxy⟩
    all_goals rw [cell_of_row W _ _ _ _ _ hc]; rfl
  · unfold tm
    rw [at_mk]
    refine ⟨some ⟨w.heap.size, 0, none⟩, 2, ⟨?_, ?_, ?_, ?_, ?_⟩, wfs 10 (by omega) (by omega) _ (by decide), hxy⟩
    all_goals rw [cell_of_row W _ _ _ _ _ hc]; rfl
theorem rowta {w5 : World} {b : Nat} (hr : Row w5 (some ⟨b, 0, none⟩) 2 [tm, tm]) : Row (w5.alloc (.cells #[.int .i64 8, .int .i64 8, .int .u64 0, .string ⟨#[]⟩, .slice (some ⟨b, 0, none⟩) 2 2] 34)) (some ⟨w5.heap.size, 0, none⟩) 1 [ta] := by
  have h0 := heap_alloc_new w5 (.cells #[.int .i64 8, .int .i64 8, .int .u64 0, .string ⟨#[]⟩, .slice (some ⟨b, 0, none⟩) 2 2] 34)
  have h1 := hr.keep (bk_alloc (BK.refl w5) (.cells #[.int .i64 8, .int .i64 8, .int .u64 0, .string ⟨#[]⟩, .slice (some ⟨b, 0, none⟩) 2 2] 34))
  generalize w5.alloc (.cells #[.int .i64 8, .int .i64 8, .int .u64 0, .string ⟨#[]⟩, .slice (some ⟨b, 0, none⟩) 2 2] 34) = W at h0 h1 ⊢
  refine .inr ⟨_, _, rfl, ?_, by unfold maxLen; simp⟩
  rw [AtL, AtL]
  refine ⟨?_, trivial⟩
  unfold ta
  rw [at_mk]
  refine ⟨some ⟨b, 0, none⟩, 2, ⟨?_, ?_, ?_, ?_, ?_⟩, wfs 8 (by omega) (by omega) _ (by decide), h1⟩
  all_goals rw [cell_of_row W _ _ _ _ _ h0]; rfl
theorem dagta (wc : World) (p : Option Addr) (c : Nat) (hr : Row wc p c [ta]) (ht : Tb wc) : Calls Tryd.prog 18 #[.agg (ca (uni 26)), .slice p 1 c] wc fun e w' => e = .returned (.int .i64 4) ∧ BK wc w' := by
  have h := dag18 (uni 26) (uni_len 26) [ta] wc p c hr ht (by simp [sizeL, size, ta, tm, tx, ty])
  rw [dag4] at h
  exact h
theorem treeta (wc : World) (p : Option Addr) (c : Nat) (hr : Row wc p c [tm, tm]) : Calls Tryd.prog 16 #[.agg (ca (uni 26)), .agg #[.int .i64 8, .int .i64 8, .int .u64 0, .string ⟨#[]⟩, .slice p 2 c]] wc fun e w' => e = .returned (.int .i64 7) ∧ BK wc w' := by
  have h := tree16 (uni 26) (uni_len 26) ta 8 8 0 ⟨#[]⟩ [tm, tm] rfl wc p c hr
  rw [tree7] at h
  exact h
set_option maxRecDepth 100000 in
set_option maxHeartbeats 2000000 in
theorem lives14 (w : World) (htb : Tb w) : Calls Tryd.prog 14 #[] w fun e w' => e = .returned (.bool true) ∧ BK w w' := by
  have hrow := rows0 w
  have hk0 : BK w ((((w.alloc (.cells #[.int .i64 1, .int .i64 8, .int .u64 0, .string ⟨#[120]⟩, .slice none 0 0, .int .i64 1, .int .i64 8, .int .u64 0, .string ⟨#[121]⟩, .slice none 0 0] 34)).alloc (.cells #[.int .i64 10, .int .i64 8, .int .u64 0, .string ⟨#[]⟩, .slice (some ⟨w.heap.size, 0, none⟩) 2 2] 34)).alloc (.cells #[.int .i64 10, .int .i64 8, .int .u64 0, .string ⟨#[]⟩, .slice (some ⟨w.heap.size, 0, none⟩) 2 2, .int .i64 10, .int .i64 8, .int .u64 0, .string ⟨#[]⟩, .slice (some ⟨w.heap.size, 0, none⟩) 2 2] 34)).alloc (.cells #[.int .i64 8, .int .i64 8, .int .u64 0, .string ⟨#[]⟩, .slice (some ⟨w.heap.size + 1 + 1, 0, none⟩) 2 2] 34)) := bk_alloc (bk_alloc (bk_alloc (bk_alloc (BK.refl w) _) _) _) _
  have hx := b5_new (((w.alloc (.cells #[.int .i64 1, .int .i64 8, .int .u64 0, .string ⟨#[120]⟩, .slice none 0 0, .int .i64 1, .int .i64 8, .int .u64 0, .string ⟨#[121]⟩, .slice none 0 0] 34)).alloc (.cells #[.int .i64 10, .int .i64 8, .int .u64 0, .string ⟨#[]⟩, .slice (some ⟨w.heap.size, 0, none⟩) 2 2] 34)).alloc (.cells #[.int .i64 10, .int .i64 8, .int .u64 0, .string ⟨#[]⟩, .slice (some ⟨w.heap.size, 0, none⟩) 2 2, .int .i64 10, .int .i64 8, .int .u64 0, .string ⟨#[]⟩, .slice (some ⟨w.heap.size, 0, none⟩) 2 2] 34)) (.int .i64 8) (.int .i64 8) (.int .u64 0) (.string ⟨#[]⟩) (.slice (some ⟨w.heap.size + 1 + 1, 0, none⟩) 2 2) 34
  have hlt := box_lt (((w.alloc (.cells #[.int .i64 1, .int .i64 8, .int .u64 0, .string ⟨#[120]⟩, .slice none 0 0, .int .i64 1, .int .i64 8, .int .u64 0, .string ⟨#[121]⟩, .slice none 0 0] 34)).alloc (.cells #[.int .i64 10, .int .i64 8, .int .u64 0, .string ⟨#[]⟩, .slice (some ⟨w.heap.size, 0, none⟩) 2 2] 34)).alloc (.cells #[.int .i64 10, .int .i64 8, .int .u64 0, .string ⟨#[]⟩, .slice (some ⟨w.heap.size, 0, none⟩) 2 2, .int .i64 10, .int .i64 8, .int .u64 0, .string ⟨#[]⟩, .slice (some ⟨w.heap.size, 0, none⟩) 2 2] 34)) #[.int .i64 8, .int .i64 8, .int .u64 0, .string ⟨#[]⟩, .slice (some ⟨w.heap.size + 1 + 1, 0, none⟩) 2 2] 34
  rw [show (((w.alloc (.cells #[.int .i64 1, .int .i64 8, .int .u64 0, .string ⟨#[120]⟩, .slice none 0 0, .int .i64 1, .int .i64 8, .int .u64 0, .string ⟨#[121]⟩, .slice none 0 0] 34)).alloc (.cells #[.int .i64 10, .int .i64 8, .int .u64 0, .string ⟨#[]⟩, .slice (some ⟨w.heap.size, 0, none⟩) 2 2] 34)).alloc (.cells #[.int .i64 10, .int .i64 8, .int .u64 0, .string ⟨#[]⟩, .slice (some ⟨w.heap.size, 0, none⟩) 2 2, .int .i64 10, .int .i64 8, .int .u64 0, .string ⟨#[]⟩, .slice (some ⟨w.heap.size, 0, none⟩) 2 2] 34)).heap.size = w.heap.size + 1 + 1 + 1 by simp] at hx hlt
  have HT := Lib.hid htb
  clear htb
  go_enter Tryd.func14, Tryd.ntmps14
  go_wp2_with fail
  generalize ((((w.alloc (.cells #[.int .i64 1, .int .i64 8, .int .u64 0, .string ⟨#[120]⟩, .slice none 0 0, .int .i64 1, .int .i64 8, .int .u64 0, .string ⟨#[121]⟩, .slice none 0 0] 34)).alloc (.cells #[.int .i64 10, .int .i64 8, .int .u64 0, .string ⟨#[]⟩, .slice (some ⟨w.heap.size, 0, none⟩) 2 2] 34)).alloc (.cells #[.int .i64 10, .int .i64 8, .int .u64 0, .string ⟨#[]⟩, .slice (some ⟨w.heap.size, 0, none⟩) 2 2, .int .i64 10, .int .i64 8, .int .u64 0, .string ⟨#[]⟩, .slice (some ⟨w.heap.size, 0, none⟩) 2 2] 34)).alloc (.cells #[.int .i64 8, .int .i64 8, .int .u64 0, .string ⟨#[]⟩, .slice (some ⟨w.heap.size + 1 + 1, 0, none⟩) 2 2] 34)) = w0 at hrow hk0 hx hlt ⊢
  have HX := Lib.hid (fun wc (hb : BK w0 wc) => five (hx.keep hb hlt))
  have HR := Lib.hid (fun wc (hb : BK w0 wc) => hrow.keep hb)
  have HK0 := Lib.hid hk0
  clear hrow hk0 hx hlt
  have k0 := BK.refl w0
  go_region_held3 (fun w' => w'.cell? ⟨w.heap.size + 1 + 1 + 1, 0, none⟩ = some (.int .i64 8) ∧ w'.cell? ⟨w.heap.size + 1 + 1 + 1, 1, none⟩ = some (.int .i64 8) ∧ w'.cell? ⟨w.heap.size + 1 + 1 + 1, 2, none⟩ = some (.int .u64 0) ∧ w'.cell? ⟨w.heap.size + 1 + 1 + 1, 3, none⟩ = some (.string ⟨#[]⟩) ∧ w'.cell? ⟨w.heap.size + 1 + 1 + 1, 4, none⟩ = some (.slice (some ⟨w.heap.size + 1 + 1, 0, none⟩) 2 2))
    (exact HX.out _ (by first | assumption | exact bk_drew k0 | exact bk_alloc (by assumption) _))
    ((first
      | (go_at_call 18; refine (dagta _ _ _ hrt (HT.out.keep (bk_tr HK0.out hkE))).mono ?_; rintro e w6 ⟨rfl, hq⟩; have hkD := bk_tr hkE hq)
      | (go_at_call 18; refine (dagta _ _ _ (rowta (HR.out _ hkC)) (HT.out.keep (bk_tr HK0.out (bk_alloc hkC _)))).mono ?_; rintro e w6 ⟨rfl, hq⟩; have hkD := bk_tr (bk_alloc hkC _) hq)
      | (go_at_call 13; refine (uniform13 _).mono ?_; rintro e w6 ⟨rfl, hq⟩; have hkC := bk_tr hkB hq)
      | (go_at_call 13; refine (uniform13 _).mono ?_; rintro e w6 ⟨rfl, hq⟩; have hrt := (rowta (HR.out _ hkB)).keep hq; have hkE := bk_tr (bk_alloc hkB _) hq)
      | (go_at_call 16; refine (treeta _ _ _ (HR.out _ hkA)).mono ?_; rintro e w6 ⟨rfl, hq⟩; have hkB := bk_tr hkA hq)
      | (go_at_call 13; refine (uniform13 _).mono ?_; rintro e w6 ⟨rfl, hq⟩; have hkA := bk_tr (bk_drew k0) hq)))
  all_goals
    have HD := Lib.hid hkD
    clear hkD
    go_wp2_with fail
    go_ret
    exact ⟨rfl, bk_tr HK0.out HD.out⟩
end Go.Proofs.YtmejiiebeknbjaaDoor
