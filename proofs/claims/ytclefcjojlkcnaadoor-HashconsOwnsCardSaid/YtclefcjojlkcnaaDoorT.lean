/- Compare is 0 at equal nodes alone. The reference's Copy. -/
import Derived.Test.YtclefcjojlkcnaaDoorQ
import Derived.Test.YtclefcjojlkcnaaDoorR
import Derived.Test.YtclefcjojlkcnaaDoorD
import Derived.Laws.AppendOwnNone
namespace Go.Proofs.YtclefcjojlkcnaaDoor
open Go.RowKit
set_option linter.unusedVariables false
set_option linter.unusedSimpArgs false
theorem lex_zero {x y : Int} : lex x y = 0 ↔ x = 0 ∧ y = 0 := by unfold lex; split <;> omega
theorem ci_zero {x y : Int} : ci x y = 0 ↔ x = y := by
  unfold ci
  repeat' split
  all_goals omega
theorem cs_zero {s t : ByteArray} : cs s t = 0 ↔ s = t := by
  rw [cs_spec]
  constructor
  · intro h
    split at h
    · omega
    · split at h
      · rename_i _ h2
        have h3 : s.data.toList = t.data.toList := by simpa [Lib.toList_data] using h2
        obtain ⟨⟨l⟩⟩ := s
        obtain ⟨⟨m⟩⟩ := t
        simp at h3
        rw [h3]
      · omega
  · rintro rfl
    rw [if_neg (List.lt_irrefl _), if_pos rfl]
theorem sl_zero : ∀ {l m : List Int}, sl l m = 0 ↔ l = m
  | [], [] => by simp [sl]
  | [], _ :: _ => by simp [sl]
  | _ :: _, [] => by simp [sl]
  | x :: l, y :: m => by rw [sl_cons, lex_zero, ci_zero, sl_zero]; simp
theorem cmpN_zero {op wd vl op' wd' vl' : Int} {nm nm' : ByteArray} {zs ys : List Int} : cmpN op wd vl op' wd' vl' nm nm' zs ys = 0 ↔ op = op' ∧ wd = wd' ∧ vl = vl' ∧ nm = nm' ∧ zs = ys := by
  rw [cmpN_lex]
  simp only [lex_zero, ci_zero, cs_zero, sl_zero]
  constructor
  · rintro ⟨h1, h2, h3, h4, h5, h6, _⟩; exact ⟨h1, h2, h3, h4, h6⟩
  · rintro ⟨h1, h2, h3, h4, h6⟩; exact ⟨h1, h2, h3, h4, by rw [h6], h6, trivial⟩
theorem key_cmp (op wd op' wd' : Int) (vl vl' : Nat) (nm nm' : ByteArray) (zs ys : List Int) : ((⟨(keyL op wd vl nm zs).toArray⟩ : ByteArray).toList == (⟨(keyL op' wd' vl' nm' ys).toArray⟩ : ByteArray).toList) = (cmpN op wd vl op' wd' vl' nm nm' zs ys == 0) := by
  rw [Bool.eq_iff_iff]
  simp only [Lib.toList_data, beq_iff_eq, cmpN_zero]
  constructor
  · intro h
    obtain ⟨h1, h2, h3, h4, h5⟩ := key_inj h
    exact ⟨h1, h2, by rw [h3], h4, h5⟩
  · rintro ⟨h1, h2, h3, h4, h5⟩
    rw [h1, h2, h4, h5, Int.ofNat_inj.1 h3]
theorem info3' : (Tryd.prog.info? 3).map (fun i => (i.zero, i.size, i.bytes)) = some (some (.int .i64 0), 1, 8) := by kernel_rfl
/-- the cells behind a slice of numbers -/
theorem ra_cells {w : World} {b off : Nat} {zs : List Int} (h : ∀ k, k < zs.length → w.cell? ⟨b, off + k, none⟩ = some (.int .i64 (zs.getD k 0))) : ∀ j u, (ints zs)[j]? = some u → w.cell? ((⟨b, off, none⟩ : Addr).add j) = some u := fun j u hu => by
  have hj : j < zs.length := by
    rcases Nat.lt_or_ge j zs.length with hj | hj
    · exact hj
    · rw [List.getElem?_eq_none (by simp [ints]; omega)] at hu; cases hu
  rw [show (⟨b, off, none⟩ : Addr).add j = ⟨b, off + j, none⟩ from Go.WideShapes.add_plain _ _ _, h j hj]
  simp [ints, hj] at hu
  rw [← hu]; simp [List.getD_eq_getElem?_getD, hj]
theorem wpList_append_ra {ops : Array Oper} {rest : List Oper} {o : Oper} {a : Act} {w : World} {Q : Exit → Act → World → Prop} (hgd : o.guard = none) (s x : Operand)
    (ho : o.op = .call { callee := .builtin .append, args := #[s, x], argTypes := #[24, 24] }) (hs : a.eval s = .slice none 0 0)
    (p : Option Addr) (c : Nat) (zs : List Int) (hx : a.eval x = .slice p zs.length c) (hr : Ra w p zs) (hn : p = none → c = 0) (hl : zs.length ≤ 1000)
    (h : ∀ p' c' w', w'.ownsRow w.heap.size 3 1 (.slice p' zs.length c') zs.length (ints zs) → BK w w' → wpList Tryd.prog ops Q rest (a.put o.dst (.slice p' zs.length c')) w') : wpList Tryd.prog ops Q (o :: rest) a w := by
  obtain ⟨i3, hi3, hz3, hs3, hb3⟩ := info_parts info3'
  have own : ∀ (ad : Addr) (news : List Value), a.eval x = .slice (some ad) zs.length c → news = ints zs → (∀ j u, news[j]? = some u → w.cell? (ad.add j) = some u) → wpList Tryd.prog ops Q (o :: rest) a w := by
    intro ad news hx hnews hc
    subst hnews
    refine wpList_append_own w hgd s x 24 ho w.heap.size 3 i3 (.int .i64 0) 1 8 Tryd.underlying24 hi3 hz3 hs3 hb3 rfl (by decide) (.slice none 0 0) 0 [] hs (World.ownsRow_nil _ _ _ _) ad zs.length c (ints zs) hx (by simp [ints]) hc (fun u hu => by unfold ints at hu; obtain ⟨z, _, rfl⟩ := List.mem_map.1 hu; rfl) (by unfold maxLen; omega) (by omega) (Nat.le_refl _) ?_
    intro v' w' hown hgrow _
    rw [List.nil_append, Nat.zero_add] at hown
    obtain ⟨p', c', rfl⟩ := own_shape hown
    exact h p' c' w' hown ((Below.refl w.heap.size w).grown hgrow (Nat.le_refl _) (fun r hr => by cases hr))
  by_cases h0 : 0 < zs.length
  · obtain ⟨b, off, rfl, _, hc⟩ := hr h0
    exact own ⟨b, off, none⟩ _ hx rfl (ra_cells hc)
  · have hz : zs = [] := List.eq_nil_of_length_eq_zero (by omega)
    subst hz
    cases p with
    | none =>
      obtain rfl := hn rfl
      exact wpList_append_own_none hgd s x 24 ho w.heap.size 3 i3 1 Tryd.underlying24 hi3 (.slice none 0 0) 0 [] hs (World.ownsRow_nil _ _ _ _) hx (h none 0 w (World.ownsRow_nil _ _ _ _) (BK.refl _))
    | some ad => exact own ad [] hx rfl (fun j u hu => by simp at hu)
set_option maxHeartbeats 2000000 in
theorem refcopy_any (op wd vl : Int) (name : ByteArray) (p : Option Addr) (c : Nat) (zs : List Int) (w : World) (h : Ra w p zs) (hl : zs.length ≤ 1000) (hn : p = none → c = 0) :
    Calls Tryd.prog 18 #[.agg #[.int .i64 op, .int .i64 wd, .int .u64 vl, .string name, .slice p zs.length c]] w fun e w' => ∃ p' c', e = .returned (.agg #[.int .i64 op, .int .i64 wd, .int .u64 vl, .string name, .slice p' zs.length c']) ∧ w'.ownsRow w.heap.size 3 1 (.slice p' zs.length c') zs.length (ints zs) ∧ BK w w' := by
  have hk0 : BK w ((w.alloc (.cells #[.int .i64 op, .int .i64 wd, .int .u64 vl, .string name, .slice p zs.length c] 26)).alloc (.cells #[.int .i64 0, .int .i64 0, .int .u64 0, .string ⟨#[]⟩, .slice none 0 0] 26)) := bk_alloc (bk_alloc (BK.refl w) _) _
  have hx := (b5_new w (.int .i64 op) (.int .i64 wd) (.int .u64 vl) (.string name) (.slice p zs.length c) 26).keep (bk_alloc (BK.refl _) (.cells #[.int .i64 0, .int .i64 0, .int .u64 0, .string ⟨#[]⟩, .slice none 0 0] 26)) (by simp)
  have hfx := fz_keep (fz_new w #[.int .i64 op, .int .i64 wd, .int .u64 vl, .string name, .slice p zs.length c] 26) (bk_alloc (BK.refl _) (.cells #[.int .i64 0, .int .i64 0, .int .u64 0, .string ⟨#[]⟩, .slice none 0 0] 26)) (by simp)
  have hy := b5_new (w.alloc (.cells #[.int .i64 op, .int .i64 wd, .int .u64 vl, .string name, .slice p zs.length c] 26)) (.int .i64 0) (.int .i64 0) (.int .u64 0) (.string ⟨#[]⟩) (.slice none 0 0) 26
  have hfy := fz_new (w.alloc (.cells #[.int .i64 op, .int .i64 wd, .int .u64 vl, .string name, .slice p zs.length c] 26)) #[.int .i64 0, .int .i64 0, .int .u64 0, .string ⟨#[]⟩, .slice none 0 0] 26
  have hsz : ((w.alloc (.cells #[.int .i64 op, .int .i64 wd, .int .u64 vl, .string name, .slice p zs.length c] 26)).alloc (.cells #[.int .i64 0, .int .i64 0, .int .u64 0, .string ⟨#[]⟩, .slice none 0 0] 26)).heap.size = w.heap.size + 2 := by simp
  have hra := h.keep hk0
  rw [show (w.alloc (.cells #[.int .i64 op, .int .i64 wd, .int .u64 vl, .string name, .slice p zs.length c] 26)).heap.size = w.heap.size + 1 by simp] at hy hfy
  have HN := Lib.hid hn
  clear h hn
  have HX := Lib.hid (fun wc (hb : BK _ wc) => hx.keep hb (by omega))
  have HY := Lib.hid (fun wc (hb : BK _ wc) => hy.keep hb (by omega))
  have HFX := Lib.hid (fun wc (hb : BK _ wc) => fz_keep hfx hb (by omega))
  have HFY := Lib.hid (fun wc (hb : BK _ wc) => fz_keep hfy hb (by omega))
  have HRA := Lib.hid hra
  have HK0 := Lib.hid hk0
  have Hz := Lib.hid hsz
  clear hx hy hfx hfy hra hk0 hsz
  go_enter Tryd.func18, Tryd.ntmps18
  go_wp2_with (at_builtin; go_must (refine wpList_append_ra rfl _ _ rfl rfl p c zs rfl HRA.out HN.out hl ?_); intro p1 c1 w1 ho hb1; obtain ⟨x0, x1, x2, x3, x4⟩ := HX.out _ hb1; obtain ⟨y0, y1, y2, y3, y4⟩ := HY.out _ hb1; have fx := HFX.out _ hb1; have fy := HFY.out _ hb1; have HO := Lib.hid ho; have HK := Lib.hid (bk_tr HK0.out hb1); clear ho hb1)
  refine bodyPost_ret (v := .agg #[.int .i64 op, .int .i64 wd, .int .u64 vl, .string name, .slice p1 zs.length c1]) (by simp [results, Tryd.results18, go_sem, y0, y1, y2, y3, y4]) rfl ⟨p1, c1, rfl, ?_, ?_⟩
  · have hz := Hz.out
    refine own_mono (B := w.heap.size + 2) ?_ (by omega)
    rw [hz] at HO
    exact own_set (own_set (own_set (own_set (own_set (own_set HO.out _ _ (by simp)) _ _ (by simp)) _ _ (by simp)) _ _ (by simp)) _ _ (by simp)) _ _ (by simp)
  · exact bk_set (bk_set (bk_set (bk_set (bk_set (bk_set HK.out _ _ (by simp)) _ _ (by simp)) _ _ (by simp)) _ _ (by simp)) _ _ (by simp)) _ _ (by simp)
end Go.Proofs.YtclefcjojlkcnaaDoor
