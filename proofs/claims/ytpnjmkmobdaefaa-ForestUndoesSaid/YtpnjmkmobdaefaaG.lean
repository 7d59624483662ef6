/- A path that grows in a box; the closure that descends. -/
import Derived.Test.YtpnjmkmobdaefaaF
namespace Go.Proofs.Ytpnjmkmobdaefaa
open Go.RowKit Go.Maps
set_option linter.unusedVariables false
set_option linter.unusedSimpArgs false
theorem info44 : (Try.prog.info? 44).map (fun i => (i.zero, i.size, i.bytes)) = some (some (.agg #[.int .i64 0, .int .i64 0, .int .i64 0]), 3, 24) := by kernel_rfl
theorem info3 : (Try.prog.info? 3).map (fun i => (i.zero, i.size, i.bytes)) = some (some (.int .i64 0), 1, 8) := by kernel_rfl
def c3 (l : L3) : Array Value := #[.int .i64 l.a, .int .i64 l.b, .int .i64 l.y]
theorem news3 (w : World) (l : L3) (T : Nat) : ∀ j u, (flat3 [l])[j]? = some u → (w.alloc (.cells (c3 l) T)).cell? ((⟨w.heap.size, 0, none⟩ : Addr).add j) = some u := by
  intro j u hj
  rw [show (⟨w.heap.size, 0, none⟩ : Addr).add j = ⟨w.heap.size, 0 + j, none⟩ from Go.WideShapes.add_plain _ _ _, Nat.zero_add, World.cell?_alloc_new, ← hj]
  simp [flat3, cells3, c3]
/-- an append of one link -/
theorem wpList_push3 {ops : Array Oper} {rest : List Oper} {o : Oper} {a : Act} {Q : Exit → Act → World → Prop} {w : World} (hgd : o.guard = none) (s x : Operand)
    (ho : o.op = .call { callee := .builtin .append, args := #[s, x], argTypes := #[26, 26] }) (base : Nat) (v : Value) (P : List L3) (hs : a.eval s = v) (hown : w.ownsRow base 44 3 v P.length (flat3 P))
    (ad : Addr) (c : Nat) (l : L3) (hx : a.eval x = .slice (some ad) 1 c) (hnews : ∀ j u, (flat3 [l])[j]? = some u → w.cell? (ad.add j) = some u) (hsm : P.length ≤ 100000) (hbase : base ≤ w.heap.size)
    (h : ∀ g cap w', w'.ownsRow base 44 3 (.slice (some ⟨g, 0, none⟩) (P.length + 1) cap) (P ++ [l]).length (flat3 (P ++ [l])) → w.grownBy w' v.ownBlock → (v.ownBlock = some g ∨ g = w.heap.size) → wpList Try.prog ops Q rest (a.put o.dst (.slice (some ⟨g, 0, none⟩) (P.length + 1) cap)) w') : wpList Try.prog ops Q (o :: rest) a w := by
  obtain ⟨i0, hi, hz0, hz1, hz2⟩ := info_parts info44
  refine wpList_append_lies w hgd s x 26 ho base 44 i0 _ 3 24 Try.underlying26 hi hz0 hz1 hz2 rfl (by decide) v P.length (flat3 P) hs hown ad 1 c (flat3 [l]) hx (flat3_len [l]) hnews (flat3_one [l]) (by omega) (by unfold maxLen; omega) (by omega) hbase _ rfl ?_
  intro g cap w' h1 h2 h3 h4
  exact h g cap w' (by rw [List.length_append, flat3_app]; exact h1) h2 h3
/-- the boxes of Path: the common id, the forest, the path so far -/
structure PB (w : World) (B tb fb pb : Nat) (top : Int) (f : Nat) (v : Value) (P : List L3) : Prop where
  ct : w.heap[tb]? = some (.cells #[.int .i64 top] 3 (0, 0))
  cf : w.heap[fb]? = some (.cells #[.pointer (some ⟨f, 0, none⟩)] 23 (0, 0))
  cp : w.heap[pb]? = some (.cells #[v] 26 (0, 0))
  own : w.ownsRow B 44 3 v P.length (flat3 P)
  lp : B ≤ pb
theorem blk_keep {w w' : World} {b : Nat} {C : Array Value} {T : TypeId} (h : w.heap[b]? = some (.cells C T (0, 0))) (hb : BK w w') : w'.heap[b]? = some (.cells C T (0, 0)) := (hb.bl.block b (Array.getElem?_eq_some_iff.1 h).1).trans h
theorem PB.keep {w w' : World} {B tb fb pb : Nat} {top : Int} {f : Nat} {v : Value} {P : List L3} (h : PB w B tb fb pb top f v P) (hb : BK w w') : PB w' B tb fb pb top f v P :=
  ⟨blk_keep h.ct hb, blk_keep h.cf hb, blk_keep h.cp hb, own_below h.own hb, h.lp⟩
theorem one_cell {w : World} {b : Nat} {u : Value} {T : TypeId} (h : w.heap[b]? = some (.cells #[u] T (0, 0))) : w.cell? ⟨b, 0, none⟩ = some u := by
  rw [cell_of_row w b 0 _ T (0, 0) h]; rfl
theorem one_free {w : World} {b : Nat} {u : Value} {T : TypeId} (h : w.heap[b]? = some (.cells #[u] T (0, 0))) : w.frozen? ⟨b, 0, none⟩ = false := frozen_of_row w b 0 _ T h
theorem push_frame {w w1 : World} {B pb n : Nat} {v v' : Value} {xs : List Value} {X : Obj} (ho : w.ownsRow B 44 3 v n xs) (hg : (w.alloc X).grownBy w1 v.ownBlock) {b : Nat} {C : Array Value} {T : TypeId} (hb : w.heap[b]? = some (.cells C T (0, 0))) (hT : T ≠ 44) : w1.heap[b]? = some (.cells C T (0, 0)) := by
  have hlt := (Array.getElem?_eq_some_iff.1 hb).1
  rw [hg.block b (by rw [sz1]; omega) (fun e => ?_)]
  · exact (heap_alloc_old w X hlt).trans hb
  · obtain ⟨cur, hc⟩ := own_tag ho e.symm
    rw [hc] at hb
    cases hb
    exact hT rfl
theorem PB.push {w w1 : World} {B tb fb pb : Nat} {top : Int} {f : Nat} {v : Value} {P : List L3} {X : Obj} {l : L3} {g cap : Nat} (h : PB w B tb fb pb top f v P) (hg : (w.alloc X).grownBy w1 v.ownBlock)
    (ho0 : w1.ownsRow B 44 3 (.slice (some ⟨g, 0, none⟩) (P.length + 1) cap) (P.length + 1) (flat3 (P ++ [l]))) (hat : v.ownBlock = some g ∨ g = w.heap.size + 1) :
    PB (w1.setCell ⟨pb, 0, none⟩ (.slice (some ⟨g, 0, none⟩) (P.length + 1) cap)) B tb fb pb top f (.slice (some ⟨g, 0, none⟩) (P.length + 1) cap) (P ++ [l]) ∧
    (∀ (b : Nat) (C : Array Value) (T : TypeId), w.heap[b]? = some (.cells C T (0, 0)) → T ≠ 44 → T ≠ 26 → (w1.setCell ⟨pb, 0, none⟩ (.slice (some ⟨g, 0, none⟩) (P.length + 1) cap)).heap[b]? = some (.cells C T (0, 0))) ∧
    (∀ w0, BK w0 w → w0.heap.size ≤ B → BK w0 (w1.setCell ⟨pb, 0, none⟩ (.slice (some ⟨g, 0, none⟩) (P.length + 1) cap))) := by
  have ho : w1.ownsRow B 44 3 (.slice (some ⟨g, 0, none⟩) (P.length + 1) cap) (P ++ [l]).length (flat3 (P ++ [l])) := by rw [List.length_append]; exact ho0
  have hfr : ∀ (b : Nat) (C : Array Value) (T : TypeId), w.heap[b]? = some (.cells C T (0, 0)) → T ≠ 44 → T ≠ 26 → (w1.setCell ⟨pb, 0, none⟩ (.slice (some ⟨g, 0, none⟩) (P.length + 1) cap)).heap[b]? = some (.cells C T (0, 0)) := by
    intro b C T hb h1 h2
    have hne : b ≠ pb := fun e => by subst e; rw [h.cp] at hb; cases hb; exact h2 rfl
    rw [heap_setCell_other w1 ⟨pb, 0, none⟩ b _ (fun e => hne e)]
    exact push_frame (pb := pb) (v' := v) h.own hg hb h1
  have hp1 := push_frame (pb := pb) (v' := v) h.own hg h.cp (by decide)
  have hgp : g ≠ pb := by
    intro e
    have hlt := (Array.getElem?_eq_some_iff.1 h.cp).1
    rcases hat with q | q
    · obtain ⟨cur, hc⟩ := own_tag h.own q
      rw [e, h.cp] at hc; cases hc
    · omega
  refine ⟨⟨hfr _ _ _ h.ct (by decide) (by decide), hfr _ _ _ h.cf (by decide) (by decide), ?_, ?_, h.lp⟩, hfr, fun w0 hb hB => ?_⟩
  · rw [heap_setCell_same w1 pb 0 _ 26 _ hp1]; rfl
  · exact own_at ho fun k hk => heap_setCell_other w1 ⟨pb, 0, none⟩ k _ (fun e => hgp (by
      have : g = k := by simpa [Value.ownBlock] using hk
      rw [this]; exact e))
  · have hx := (bk_alloc hb X).bl.grown hg (by rw [sz1]; have := bk_size hb; omega) (fun r hr => by have := (h.own.lt r hr).1; omega)
    exact hx.setCell (Nat.le_trans hB h.lp) _
theorem why_at {M : List L3} {k : Nat} {l : L3} (h : M[k]? = some l) : whyAt M.reverse k = l.y := by
  unfold whyAt; rw [nth_rev, h]
/-- the closure of Path -/
def clo (tb fb db pb : Nat) : Value := .func (.func 34) #[] #[.pointer (some ⟨tb, 0, none⟩), .pointer (some ⟨fb, 0, none⟩), .pointer (some ⟨db, 0, none⟩), .pointer (some ⟨pb, 0, none⟩)]
def DP (w0 : World) (tb fb db pb : Nat) (top : Int) (f : Nat) (Q : List L3) (e : Ending) (w' : World) : Prop := e = .returned (.tuple #[]) ∧ BK w0 w' ∧ w'.heap[db]? = some (.cells #[clo tb fb db pb] 55 (0, 0)) ∧ ∃ v', PB w' w0.heap.size tb fb pb top f v' Q
set_option maxRecDepth 100000 in
set_option maxHeartbeats 1000000 in
theorem desc34 (w0 : World) (B : Nat) (o : FO) (M : List L3) (N : Nat) (h : FB w0 B o M N) (u : UPI M o.up) (hk : M.length ≤ 1000) (tb fb db pb : Nat) (top : Int) : ∀ (t : List (Nat × Int)) (x : Int) (v : Value) (P : List L3) (w : World), okI x → UT M o.up x t → en x t = top → P.length + t.length ≤ 3000 → BK w0 w → w.heap[db]? = some (.cells #[clo tb fb db pb] 55 (0, 0)) → PB w w0.heap.size tb fb pb top o.f v P →
    Calls Try.prog 34 #[.int .i64 x, .pointer (some ⟨tb, 0, none⟩), .pointer (some ⟨fb, 0, none⟩), .pointer (some ⟨db, 0, none⟩), .pointer (some ⟨pb, 0, none⟩)] w (DP w0 tb fb db pb top o.f (P ++ (lk M.reverse x t).reverse.map turnL)) := by
  intro t
  induction t with
  | nil =>
    intro x v P w hx ht he hs hb hd hp
    have he : x = top := he
    subst he
    have ct := one_cell hp.ct
    have QQ := Lib.hid (show DP w0 tb fb db pb x o.f (P ++ (lk M.reverse x []).reverse.map turnL) (.returned (.tuple #[])) w from ⟨rfl, hb, hd, v, by simpa [lk] using hp⟩)
    clear hb hd hp h u ht hx
    go_enter Try.func34, Try.ntmps34
    go_wp2_with fail
    go_end0
    exact QQ.out
  | cons p t ih =>
    intro x v P w hx ht he hs hb hd hp
    obtain ⟨k, z⟩ := p
    obtain ⟨⟨hup, l, hl, hz⟩, ht'⟩ := ht
    have he : en z t = top := he
    obtain ⟨ρ, hr⟩ := u.acc
    have hne : (x == top) = false := by
      have h1 := hr x k l hup hl
      have h2 := (ut_rank hr ht').2
      rw [← hz] at h1
      rw [he] at h2
      have : x ≠ top := fun e => by subst e; omega
      simpa using this
    have ct := one_cell hp.ct
    have cf := one_cell hp.cf
    have cd := one_cell hd
    have zo : okI z := by rw [hz]; exact oth_ok h hl x
    have P33 := Lib.hid (parent33 w B o M N (h.bk hb) x hx k l hup hl (by omega))
    rw [← hz] at P33
    have hlen : P.length + t.length ≤ 3000 := by simp at hs; omega
    have IH := Lib.hid (fun w1 (hb1 : BK w w1) => ih z v P w1 zo ht' he hlen (bk_tr hb hb1) (blk_keep hd hb1) (hp.keep hb1))
    have HQ := Lib.hid (show P ++ (lk M.reverse x ((k, z) :: t)).reverse.map turnL = (P ++ (lk M.reverse z t).reverse.map turnL) ++ [⟨z, x, l.y⟩] from by
      show P ++ ((⟨x, z, whyAt M.reverse k⟩ : L3) :: lk M.reverse z t).reverse.map turnL = _
      rw [List.reverse_cons, List.map_append, ← List.append_assoc, why_at hl]; rfl)
    have hPl : (P ++ (lk M.reverse z t).reverse.map turnL).length ≤ 3000 := by
      have : ∀ (s : List (Nat × Int)) (y : Int), (lk M.reverse y s).length = s.length := by
        intro s
        induction s with
        | nil => intro y; rfl
        | cons q s ihs => intro y; obtain ⟨j, y'⟩ := q; show (_ :: lk M.reverse y' s).length = _; simp [ihs]
      simp [this]; omega
    clear ih ht' hup hl hr hs hlen hx
    rw [HQ.out]
    generalize P ++ (lk M.reverse z t).reverse.map turnL = R at IH hPl ⊢
    clear HQ hp hb hd
    obtain ⟨la, lb, ly⟩ := l
    dsimp only at P33 ⊢
    clear hz
    unfold clo at cd
    go_enter Try.func34, Try.ntmps34
    go_wp2_with fail
    refine P33.out.mono ?_
    rintro e w1 ⟨rfl, hb1⟩
    have I1 := Lib.hid (IH.out w1 hb1)
    have cd1 := cellBk cd hb1
    clear ct cf cd hb1
    go_wp2_with fail
    refine I1.out.mono ?_
    rintro e w2 ⟨rfl, hb2, hd2, v2, hp2⟩
    have HB2 := Lib.hid hb2
    have HD2 := Lib.hid hd2
    have HP2 := Lib.hid hp2
    have cp := one_cell hp2.cp
    have cfr := one_free hp2.cp
    have hlp := Lib.hid (Array.getElem?_eq_some_iff.1 hp2.cp).1
    clear hb2 hd2 hp2 cd1
    go_wp2_with (at_builtin; refine wpList_push3 rfl _ _ rfl w0.heap.size v2 R rfl (own_at HP2.out.own fun j hj => heap_alloc_old w2 _ (HP2.out.own.lt j hj).2) ⟨w2.heap.size, 0, none⟩ 1 ⟨z, x, ly⟩ rfl (news3 w2 ⟨z, x, ly⟩ 44) (by omega) (by have := bk_size HB2.out; simp; omega) ?_)
    intro g cap w3 ho3 hg3 hat3
    have S3 := Lib.hid (HP2.out.push hg3 ho3 hat3)
    have cfr3 := one_free (push_frame (pb := pb) (v' := v2) HP2.out.own hg3 HP2.out.cp (by decide))
    have ce3 := one_cell (push_frame (pb := pb) (v' := v2) HP2.out.own hg3 HP2.out.cp (by decide))
    clear ho3 hg3 hat3 cp cfr
    go_wp2_with fail
    go_end0
    exact ⟨rfl, S3.out.2.2 w0 HB2.out (Nat.le_refl _), S3.out.2.1 _ _ _ HD2.out (by decide) (by decide), _, S3.out.1⟩
end Go.Proofs.Ytpnjmkmobdaefaa
