/- The reference's table: Put of a new node. -/
import Derived.Test.YtclefcjojlkcnaaDoorAJ
import Derived.Test.YtclefcjojlkcnaaDoorAH
import Derived.Deep.RegionHeld3
namespace Go.Proofs.YtclefcjojlkcnaaDoor.G
open Go.RowKit
set_option linter.unusedVariables false
set_option linter.unusedSimpArgs false
theorem ra_bk {lo : Nat} {w w' : World} {v : Value} {q : Option Addr} {zs : List Int} (h : RowA (memO lo w v) w q zs) (hb : BK w w') : RowA (memO lo w' v) w' q zs :=
  h.keep (fun k hk => ⟨bk_block hb hk.2.1, hk.1, Nat.lt_of_lt_of_le hk.2.1 (bk_size hb), hk.2.2⟩)
theorem ra_own {lo : Nat} {w w' : World} {v v' : Value} {q : Option Addr} {zs : List Int} (h : RowA (memO lo w v) w q zs) (hb : BK w w') (ho : ∀ g, v'.ownBlock = some g → w.heap.size ≤ g) : RowA (memO lo w' v') w' q zs :=
  h.keep (fun k hk => ⟨bk_block hb hk.2.1, hk.1, Nat.lt_of_lt_of_le hk.2.1 (bk_size hb), fun e => by have := ho k e; have := hk.2.1; omega⟩)
theorem ra_new {lo : Nat} {w w' : World} {v : Value} {q : Option Addr} {zs : List Int} (h : RowA (mem w.heap.size w') w' q zs) (hlo : lo ≤ w.heap.size) (ho : ∀ g, v.ownBlock = some g → g < w.heap.size) : RowA (memO lo w' v) w' q zs :=
  h.mono (fun k hk => ⟨Nat.le_trans hlo hk.1, hk.2, fun e => by have := ho k e; have := hk.1; omega⟩)
/-- one node in a block of its own -/
def OneN (lo : Nat) (w : World) (v : Value) (n : Nn) (g : Nat) : Prop := memO lo w v g ∧ AtD (memO lo w v) n w g 0
theorem one_bk {lo : Nat} {w w' : World} {v : Value} {n : Nn} {g : Nat} (h : OneN lo w v n g) (hb : BK w w') : OneN lo w' v n g := by
  have hk : ∀ k, memO lo w v k → w'.heap[k]? = w.heap[k]? ∧ memO lo w' v k := fun k hk => ⟨bk_block hb hk.2.1, hk.1, Nat.lt_of_lt_of_le hk.2.1 (bk_size hb), hk.2.2⟩
  exact ⟨(hk g h.1).2, h.2.keep h.1 hk⟩
theorem one_own {lo : Nat} {w w' : World} {v v' : Value} {n : Nn} {g : Nat} (h : OneN lo w v n g) (hb : BK w w') (ho : ∀ g, v'.ownBlock = some g → w.heap.size ≤ g) : OneN lo w' v' n g := by
  have hk : ∀ k, memO lo w v k → w'.heap[k]? = w.heap[k]? ∧ memO lo w' v' k := fun k hk => ⟨bk_block hb hk.2.1, hk.1, Nat.lt_of_lt_of_le hk.2.1 (bk_size hb), fun e => by have := ho k e; have := hk.2.1; omega⟩
  exact ⟨(hk g h.1).2, h.2.keep h.1 hk⟩
theorem one_new {lo : Nat} {w : World} {v : Value} (n : Nn) {q : Option Addr} (d : Nat) (h : RowA (memO lo w v) w q n.zs) (hlo : lo ≤ w.heap.size) (ho : ∀ g, v.ownBlock = some g → g < w.heap.size) : OneN lo (w.alloc (.cells (cN n q d) 26)) v n w.heap.size := by
  refine ⟨⟨hlo, by rw [sz1]; omega, fun e => by have := ho _ e; omega⟩, q, d, fun j u hj => ?_, ra_bk h (bk_alloc (BK.refl w) _)⟩
  have := news_at w (cN n q d) 26 j u (by simpa using hj)
  rw [show (⟨w.heap.size, 0, none⟩ : Addr).add j = ⟨w.heap.size, 0 + j, none⟩ from Go.WideShapes.add_plain _ _ _] at this
  exact this
theorem one_row {lo : Nat} {w : World} {v : Value} {n : Nn} {g : Nat} {S : Nat → Prop} (h : OneN lo w v n g) (hS : ∀ b, lo ≤ b → S b) : RowM (fun i => memO 0 w v i ∧ S i) w (some ⟨g, 0, none⟩) 1 [n] := by
  have hk : ∀ k, memO lo w v k → w.heap[k]? = w.heap[k]? ∧ (memO 0 w v k ∧ S k) := fun k hk => ⟨rfl, ⟨Nat.zero_le _, hk.2.1, hk.2.2⟩, hS k hk.1⟩
  refine .inr ⟨g, 0, rfl, (hk g h.1).2, fun k hk' => ?_, by simp⟩
  have : k = 0 := by simpa using hk'
  subst this
  exact h.2.keep h.1 hk
theorem part_row {w w' : World} {S : Nat → Prop} {p : Option Addr} {c : Nat} {ms : List Nn} {v : Value} (h : RowM (dom S w) w p c ms) (hb : BK w w') (ho : ∀ g, v.ownBlock = some g → w.heap.size ≤ g) : RowM (fun i => memO 0 w' v i ∧ S i) w' p c ms :=
  h.keep (fun k hk => ⟨bk_block hb hk.2, ⟨Nat.zero_le _, Nat.lt_of_lt_of_le hk.2 (bk_size hb), fun e => by have := ho k e; have := hk.2; omega⟩, hk.1⟩)
theorem bk_step_nil {w w' : World} {F' : Nat → Prop} (s : Step w w' (fun k => (Value.slice none 0 0).ownBlock = some k) F') : BK w w' := Step.bk_new (BK.refl w) s (fun k hk => by cases hk)
theorem new_of_nil {w w' : World} {v : Value} (s : Step w w' (fun k => (Value.slice none 0 0).ownBlock = some k) (fun k => v.ownBlock = some k)) : ∀ g, v.ownBlock = some g → w.heap.size ≤ g := fun g hg => by
  rcases s.sub g hg with h | h
  · cases h
  · exact h
theorem own_keep {w w' : World} {v v' : Value} {B : Nat} (s : Step w w' (fun k => v.ownBlock = some k) (fun k => v'.ownBlock = some k)) (h : ∀ g, v.ownBlock = some g → B ≤ g) (hB : B ≤ w.heap.size) : ∀ g, v'.ownBlock = some g → B ≤ g := fun g hg => by
  rcases s.sub g hg with q | q
  · exact h g q
  · exact Nat.le_trans hB q
theorem bk_own {w0 w w' : World} {v : Value} {F' : Nat → Prop} (hb : BK w0 w) (s : Step w w' (fun k => v.ownBlock = some k) F') (h : ∀ g, v.ownBlock = some g → w0.heap.size ≤ g) : BK w0 w' := Step.bk_new hb s h
theorem gl_app0 {o : Oper} {a : Act} {K : Act → World → Prop} {Q : Exit → Act → World → Prop} {w : World} (s x : Operand)
    (ho : o.op = .call { callee := .builtin .append, args := #[s, x], argTypes := #[43, 43] })
    (S : Nat → Prop) (tt : List Nn) (hs : a.eval s = .slice none 0 0) (p : Option Addr) (c : Nat) (hx : a.eval x = .slice p tt.length c) (hr : RowM (fun i => memO 0 w (.slice none 0 0) i ∧ S i) w p c tt) (h2 : tt.length ≤ 100000)
    (h : ∀ q d w', GL 0 26 5 w' (.slice q tt.length d) tt.length (PN S tt) → Step w w' (fun k => (Value.slice none 0 0).ownBlock = some k) (fun k => (Value.slice q tt.length d).ownBlock = some k) → K (a.put o.dst (.slice q tt.length d)) w') : o.wp Tryd.prog a w K Q :=
  gl_app s x ho S 0 (.slice none 0 0) [] tt hs (GL.nil _ _ _ _ _) p c hx hr (Nat.zero_le _) (Nat.zero_le _) h2 (fun q d w' h1 h2 => by
    rw [List.length_nil, Nat.zero_add] at h1 h2 ⊢
    exact h q d w' h1 h2)
theorem li_appN {o : Oper} {a : Act} {K : Act → World → Prop} {Q : Exit → Act → World → Prop} {w : World} (s x : Operand)
    (ho : o.op = .call { callee := .builtin .append, args := #[s, x], argTypes := #[24, 24] })
    (lo : Nat) (v : Value) (n m : Nat) (zs tt : List Int) (hn : zs.length = n) (hm : tt.length = m) (hs : a.eval s = v) (hown : w.ownsRow lo 3 1 v n (ints zs)) (p : Option Addr) (c : Nat) (hx : a.eval x = .slice p m c) (D : Nat → Prop) (hr : RowI D w p c tt) (hlo : lo ≤ w.heap.size) (h1 : n ≤ 100000) (h2 : m ≤ 100000) (r : Nat) (hrr : n + m = r)
    (h : ∀ q d w', w'.ownsRow lo 3 1 (.slice q r d) r (ints (zs ++ tt)) → Step w w' (fun k => v.ownBlock = some k) (fun k => (Value.slice q r d).ownBlock = some k) → K (a.put o.dst (.slice q r d)) w') : o.wp Tryd.prog a w K Q := by
  subst hn
  subst hm
  subst hrr
  exact li_app s x ho lo v zs tt hs hown p c hx D hr hlo h1 h2 h
theorem rt_put {S : Nat → Prop} {w : World} {mb lo lo' : Nat} {x0 x1 : Value} {ms : List Nn} {ids : List Int} {q q' : Option Addr} {d d' : Nat} (hmb : mb < w.heap.size) (hnS : ¬ S mb) (c0 : w.cell? ⟨mb, 0, none⟩ = some x0) (c1 : w.cell? ⟨mb, 1, none⟩ = some x1) (f0 : w.frozen? ⟨mb, 0, none⟩ = false) (f1 : w.frozen? ⟨mb, 1, none⟩ = false)
    (hg : GL 0 26 5 w (.slice q ms.length d) ms.length (PN S ms)) (ho : ∀ g, (Value.slice q ms.length d).ownBlock = some g → lo ≤ g) (hi : w.ownsRow lo' 3 1 (.slice q' ids.length d') ids.length (ints ids)) (hS : ∀ b, lo ≤ b → S b) (hll : lo ≤ lo') :
    RT S ((w.setCell ⟨mb, 0, none⟩ (.slice q ms.length d)).setCell ⟨mb, 1, none⟩ (.slice q' ids.length d')) mb ms ids := by
  have hst : Step w ((w.setCell ⟨mb, 0, none⟩ (.slice q ms.length d)).setCell ⟨mb, 1, none⟩ (.slice q' ids.length d')) (fun k => k = mb) (fun k => k = mb) :=
    ⟨rfl, rfl, rfl, by simp [World.setCell], fun k hk hn => by rw [Below.heap_setCell _ _ _ _ hn, Below.heap_setCell _ _ _ _ hn], fun k h => .inl h⟩
  have hd := hst.dom (S := S) (fun k hk e => hnS (e ▸ hk))
  refine ⟨q, d, q', d', ⟨?_, ?_⟩, ⟨?_, ?_⟩, ⟨Nat.lt_of_lt_of_le hmb hst.size, hnS⟩, ?_, ?_⟩
  · rw [World.cell?_setCell_other _ _ _ _ (by simp)]
    exact World.cell?_setCell_same _ _ _ c0
  · exact World.cell?_setCell_same (u := x1) _ _ _ (by rw [World.cell?_setCell_other _ _ _ _ (by simp)]; exact c1)
  · rw [World.frozen?_setCell, World.frozen?_setCell]; exact f0
  · rw [World.frozen?_setCell, World.frozen?_setCell]; exact f1
  · refine RowM.keep (D := dom S w) ?_ hd
    rcases hg.row (PN.mono S ms) with ⟨h0, h1⟩ | ⟨g, rfl, h1, h2, h3⟩
    · exact .inl ⟨h0, h1⟩
    · refine .inr ⟨g, 0, rfl, ⟨hS g (ho g rfl), h1.2⟩, fun k hk => ?_, h3⟩
      obtain ⟨cs, a1, a2, m, q2, d2, a3, rfl, a5⟩ := h2 k hk
      obtain rfl : ms[k] = m := by
        rw [List.getElem?_eq_getElem hk] at a3
        exact Option.some.inj a3
      exact ⟨q2, d2, by simpa using a2, a5.mono (fun i hi => ⟨hi.2, hi.1.2⟩)⟩
  · refine RowI.keep (D := dom S w) ?_ hd
    by_cases h0 : ids.length = 0
    · refine .inl ⟨h0, fun hp => ?_⟩
      subst hp
      rcases hi.2 with ⟨hv, _⟩ | ⟨g, cap, cur, hv, _⟩
      · simp only [Value.slice.injEq] at hv; exact hv.2.2
      · cases hv
    · obtain ⟨b, o, rfl, h1, h2⟩ := Ra.own hi (by omega)
      rcases hi.2 with ⟨hv, _⟩ | ⟨g, cap, cur, hv, _, _, h5, _⟩
      · cases hv
      · cases hv
        exact .inr ⟨b, _, rfl, ⟨hS b (Nat.le_trans hll (hi.lt b rfl).1), h1⟩, h2, h5⟩
theorem gl_appN {o : Oper} {a : Act} {K : Act → World → Prop} {Q : Exit → Act → World → Prop} {w : World} (s x : Operand)
    (ho : o.op = .call { callee := .builtin .append, args := #[s, x], argTypes := #[43, 43] })
    (S : Nat → Prop) (lo : Nat) (v : Value) (n m r : Nat) (zs tt : List Nn) (hn : zs.length = n) (hm : tt.length = m) (hr0 : n + m = r) (hs : a.eval s = v) (hl : GL lo 26 5 w v n (PN S zs)) (p : Option Addr) (c : Nat) (hx : a.eval x = .slice p m c) (hr : RowM (fun i => memO lo w v i ∧ S i) w p c tt) (hlo : lo ≤ w.heap.size) (h1 : n ≤ 100000) (h2 : m ≤ 100000)
    (h : ∀ q d w', GL lo 26 5 w' (.slice q r d) r (PN S (zs ++ tt)) → Step w w' (fun k => v.ownBlock = some k) (fun k => (Value.slice q r d).ownBlock = some k) → K (a.put o.dst (.slice q r d)) w') : o.wp Tryd.prog a w K Q := by
  subst hn
  subst hm
  subst hr0
  exact gl_app s x ho S lo v zs tt hs hl p c hx hr hlo h1 h2 h
theorem refcopy_row (n : Nn) (p : Option Addr) (c : Nat) (w : World) (h : Ra w p n.zs) (hl : n.zs.length ≤ 1000) (hn : p = none → c = 0) :
    Calls Tryd.prog 18 #[.agg #[.int .i64 n.op, .int .i64 n.wd, .int .u64 n.vl, .string n.nm, .slice p n.zs.length c]] w fun e w' => ∃ p' c', e = .returned (.agg #[.int .i64 n.op, .int .i64 n.wd, .int .u64 n.vl, .string n.nm, .slice p' n.zs.length c']) ∧ RowA (mem w.heap.size w') w' p' n.zs ∧ BK w w' := by
  refine (refcopy_any n.op n.wd n.vl n.nm p c n.zs w h hl hn).mono ?_
  rintro e w' ⟨p', c', he, ho, hb⟩
  refine ⟨p', c', he, fun h0 => ?_, hb⟩
  obtain ⟨g, o, e1, e2, e3⟩ := Ra.own ho h0
  have hlt := ho.lt g (by rw [e1]; rfl)
  exact ⟨g, o, e1, ⟨hlt.1, hlt.2⟩, e3⟩
theorem bk_frozen {w w' : World} {b : Nat} (h : BK w w') (hb : b < w.heap.size) (j : Nat) : w'.frozen? ⟨b, j, none⟩ = w.frozen? ⟨b, j, none⟩ := World.frozen?_of_block (a := ⟨b, j, none⟩) (bk_block h hb)
theorem size_setCell2 (w : World) (a b : Addr) (u v : Value) : ((w.setCell a u).setCell b v).heap.size = w.heap.size := by simp [World.setCell]
set_option maxRecDepth 100000 in
set_option maxHeartbeats 2000000 in
theorem rput26_new (S : Nat → Prop) (ms : List Nn) (ids : List Int) (n : Nn) (id : Int) (hl : ms.length ≤ 1000) (hi : ids.length = ms.length) (okl : ∀ m ∈ ms, m.zs.length ≤ 1000) (hn : n.zs.length ≤ 1000) (w : World) (mb : Nat) (hT : RT S w mb ms ids) (p : Option Addr) (c : Nat) (hA : Ra w p n.zs) (hpc : p = none → c = 0) (hS : ∀ b, w.heap.size ≤ b → S b) (hno : isA n ms = false) :
    Calls Tryd.prog 26 #[.pointer (some ⟨mb, 0, none⟩), .agg #[.int .i64 n.op, .int .i64 n.wd, .int .u64 n.vl, .string n.nm, .slice p n.zs.length c], .int .i64 id] w fun e w' => e = .returned (.bool true) ∧ RT S w' mb (insM n ms) (ids.take (atI n ms) ++ id :: ids.drop (atI n ms)) ∧ Step w w' (fun k => k = mb) (fun k => k = mb) := by
  obtain ⟨q, cap, q', cap', ⟨c0, c1⟩, ⟨f0, f1⟩, ⟨hmb, hnS⟩, hM, hI⟩ := hT
  have C47 := Lib.hid (fun wc (hb : BK w wc) => rat47 ms n hl okl hn wc mb q cap (cell_bk c0 hb) ((hM.keep (bk_dom hb)).rowN) p c (hA.keep hb))
  rw [hno] at C47
  have hle := atI_le n ms
  have e1 : insM n ms = ms.take (atI n ms) ++ [n] ++ ms.drop (atI n ms) := by simp [insM]
  rw [e1]
  have hms : ms.length = (ms.take (atI n ms)).length + (ms.drop (atI n ms)).length := by rw [← List.length_append, List.take_append_drop]
  have hta : (ms.take (atI n ms)).length = atI n ms := by rw [List.length_take]; omega
  have hia : (ids.take (atI n ms)).length = atI n ms := by rw [List.length_take]; omega
  have hib : (ids.drop (atI n ms)).length = (ms.drop (atI n ms)).length := by rw [List.length_drop, List.length_drop, hi]
  have hRA := hM.take (atI n ms)
  have hRB := hM.drop (atI n ms) hle
  have hIA := hI.take (atI n ms)
  have hIB := hI.drop (atI n ms) (by omega)
  have hcm := hM.le
  have hci := hI.le
  have hmn := hM.nil
  have hin := hI.nil
  generalize ms.take (atI n ms) = A at *
  generalize ms.drop (atI n ms) = B at *
  generalize ids.take (atI n ms) = A' at *
  generalize ids.drop (atI n ms) = B' at *
  generalize atI n ms = at_ at *
  subst hta
  rw [hi] at c1 hci
  rw [hms] at c0 c1 hcm hci hl
  have s6 := fun w => slc_to 43 (.inl rfl) q (A.length + B.length) cap A.length (by omega) hmn w
  have s17 := fun w => slc_from43 q (A.length + B.length) cap A.length (by omega) hcm hmn w
  rw [show A.length + B.length - A.length = B.length by omega] at s17
  have r6 := fun w => slc_to 24 (.inr rfl) q' (A.length + B.length) cap' A.length (by omega) hin w
  have r16 := fun w => slc_from24 q' (A.length + B.length) cap' A.length (by omega) hci hin w
  rw [show A.length + B.length - A.length = B.length by omega] at r16
  have KA := Lib.hid (bk_alloc (BK.refl w) (.cells #[.int .i64 n.op, .int .i64 n.wd, .int .u64 n.vl, .string n.nm, .slice p n.zs.length c] 26))
  have BX := Lib.hid (b5_new w (.int .i64 n.op) (.int .i64 n.wd) (.int .u64 n.vl) (.string n.nm) (.slice p n.zs.length c) 26)
  have HGB := Lib.hid (show w.heap.size < (w.alloc (.cells #[.int .i64 n.op, .int .i64 n.wd, .int .u64 n.vl, .string n.nm, .slice p n.zs.length c] 26)).heap.size from by rw [sz1]; omega)
  have NS := Lib.hid hnS
  have HMB := Lib.hid hmb
  have HC := Lib.hid (And.intro c0 c1)
  have HF := Lib.hid (And.intro f0 f1)
  have H1 := Lib.hid (And.intro hRA hRB)
  have H2 := Lib.hid (And.intro hIA hIB)
  have HLA := Lib.hid (show A.length ≤ 100000 from by omega)
  have HLB := Lib.hid (show B.length ≤ 100000 from by omega)
  have HLAN := Lib.hid (show A.length + 1 ≤ 100000 from by omega)
  have HSS0 := Lib.hid hS
  have HIA := Lib.hid (And.intro hia hib)
  have CP0 := Lib.hid (fun wc (hb : BK w wc) => refcopy_row n p c wc (hA.keep hb) hn hpc)
  have LC := Lib.hid (And.intro hcm hci)
  clear hl hi okl hn hM hI hA hno c0 c1 f0 f1 hmb hnS hRA hRB hIA hIB hle e1 hms hia hib hcm hci hmn hin hpc hS
  go_enter Tryd.func26, Tryd.ntmps26
  go_wp2_with fail
  refine (C47.out _ KA.out).mono ?_
  rintro e w2 ⟨rfl, hb0⟩
  have K2 := Lib.hid (bk_tr KA.out hb0)
  have BX2 := Lib.hid (BX.out.keep hb0 HGB.out)
  have HGB2 := Lib.hid (Nat.lt_of_lt_of_le HGB.out (bk_size hb0))
  have Z2 := Lib.hid (bk_size K2.out)
  clear hb0 BX HGB KA
  generalize hgb : w.heap.size = gb at *
  have GBE := Lib.hid hgb
  have HMW := Lib.hid (show mb < w.heap.size from by rw [hgb]; exact HMB.out)
  clear hgb
  go_wp2_with fail
  have HS0 := Lib.hid (cell_bk HC.out.1 K2.out)
  have HSB := Lib.hid BX2.out
  have HGB := Lib.hid HGB2.out
  have HRA := Lib.hid (H1.out.1.keep (bk_dom K2.out))
  have HRB := Lib.hid (H1.out.2.keep (bk_dom K2.out))
  have HSS := Lib.hid (show ∀ b, w2.heap.size ≤ b → S b from fun b hb => HSS0.out b (Nat.le_trans Z2.out hb))
  have CP := Lib.hid (fun wc (hb : BK w2 wc) => CP0.out wc (bk_tr K2.out hb))
  refine wp_region_held_drew (S := fun w' => w'.cell? ⟨mb, 0, none⟩ = some (.slice q (A.length + B.length) cap) ∧ B5 w' gb (.int .i64 n.op) (.int .i64 n.wd) (.int .u64 n.vl) (.string n.nm) (.slice p n.zs.length c)) (by kernel_rfl) (⟨HS0.out, HSB.out⟩) (fun hHeld => ?_)
  have HK := Lib.hid (bk_drew (BK.refl w2))
  generalize w2.drew = wI at hHeld HK ⊢
  refine wpAnyH_take (i := 0) (v := .slice none 0 0) rfl (by kernel_rfl) (by kernel_rfl) (by kernel_rfl) (fun _ _ _ h => h) (Or.inl ⟨by kernel_rfl, fun w hSw => by (go_simp)⟩) hHeld ?_
  try simp only [Act.put, List.setIfInBounds_toArray, List.set_cons_zero, List.set_cons_succ, List.getElem_toArray, List.getElem_cons_zero, List.getElem_cons_succ]
  refine wpAnyH_take (i := 1) (v := .pointer (some ⟨mb, 0, none⟩)) rfl (by kernel_rfl) (by kernel_rfl) (by kernel_rfl) (fun _ _ _ h => h) (Or.inl ⟨by kernel_rfl, fun w hSw => by (go_simp)⟩) hHeld ?_
  try simp only [Act.put, List.setIfInBounds_toArray, List.set_cons_zero, List.set_cons_succ, List.getElem_toArray, List.getElem_cons_zero, List.getElem_cons_succ]
  refine wpAnyH_take (i := 2) (v := .pointer (some ⟨mb, 0, none⟩)) rfl (by kernel_rfl) (by kernel_rfl) (by kernel_rfl) (fun _ _ _ h => h) (Or.inl ⟨by kernel_rfl, fun w hSw => by (go_simp)⟩) hHeld ?_
  try simp only [Act.put, List.setIfInBounds_toArray, List.set_cons_zero, List.set_cons_succ, List.getElem_toArray, List.getElem_cons_zero, List.getElem_cons_succ]
  refine wpAnyH_take (i := 3) (v := .pointer (some ⟨mb, 0, none⟩)) rfl (by kernel_rfl) (by kernel_rfl) (by kernel_rfl) (fun _ _ _ h => h) (Or.inl ⟨by kernel_rfl, fun w hSw => by (go_simp)⟩) hHeld ?_
  try simp only [Act.put, List.setIfInBounds_toArray, List.set_cons_zero, List.set_cons_succ, List.getElem_toArray, List.getElem_cons_zero, List.getElem_cons_succ]
  refine wpAnyH_take (i := 4) (v := .slice q (A.length + B.length) cap) rfl (by kernel_rfl) (by kernel_rfl) (by kernel_rfl) (fun _ _ _ h => h) (Or.inl ⟨by kernel_rfl, fun w hSw => by (have z0 := hSw.1; go_simp)⟩) hHeld ?_
  try simp only [Act.put, List.setIfInBounds_toArray, List.set_cons_zero, List.set_cons_succ, List.getElem_toArray, List.getElem_cons_zero, List.getElem_cons_succ]
  refine wpAnyH_take (i := 5) (v := .int .i64 (A.length : Int)) rfl (by kernel_rfl) (by kernel_rfl) (by kernel_rfl) (fun _ _ _ h => h) (Or.inl ⟨by kernel_rfl, fun w hSw => by (go_simp)⟩) hHeld ?_
  try simp only [Act.put, List.setIfInBounds_toArray, List.set_cons_zero, List.set_cons_succ, List.getElem_toArray, List.getElem_cons_zero, List.getElem_cons_succ]
  refine wpAnyH_take (i := 6) (v := .slice q A.length cap) rfl (by kernel_rfl) (by kernel_rfl) (by kernel_rfl) (fun _ _ _ h => h) (Or.inl ⟨by kernel_rfl, fun w hSw => by (go_simp)⟩) hHeld ?_
  try simp only [Act.put, List.setIfInBounds_toArray, List.set_cons_zero, List.set_cons_succ, List.getElem_toArray, List.getElem_cons_zero, List.getElem_cons_succ]
  refine wpAnyH_take (i := 8) (v := .agg #[.int .i64 n.op, .int .i64 n.wd, .int .u64 n.vl, .string n.nm, .slice p n.zs.length c]) rfl (by kernel_rfl) (by kernel_rfl) (by kernel_rfl) (fun _ _ _ h => h) (Or.inl ⟨by kernel_rfl, fun w hSw => by (obtain ⟨z0, z1, z2, z3, z4, z5⟩ := hSw; go_simp)⟩) hHeld ?_
  try simp only [Act.put, List.setIfInBounds_toArray, List.set_cons_zero, List.set_cons_succ, List.getElem_toArray, List.getElem_cons_zero, List.getElem_cons_succ]
  refine wpAnyH_take (i := 12) (v := .pointer (some ⟨mb, 0, none⟩)) rfl (by kernel_rfl) (by kernel_rfl) (by kernel_rfl) (fun _ _ _ h => h) (Or.inl ⟨by kernel_rfl, fun w hSw => by (go_simp)⟩) hHeld ?_
  try simp only [Act.put, List.setIfInBounds_toArray, List.set_cons_zero, List.set_cons_succ, List.getElem_toArray, List.getElem_cons_zero, List.getElem_cons_succ]
  refine wpAnyH_take (i := 13) (v := .pointer (some ⟨mb, 0, none⟩)) rfl (by kernel_rfl) (by kernel_rfl) (by kernel_rfl) (fun _ _ _ h => h) (Or.inl ⟨by kernel_rfl, fun w hSw => by (go_simp)⟩) hHeld ?_
  try simp only [Act.put, List.setIfInBounds_toArray, List.set_cons_zero, List.set_cons_succ, List.getElem_toArray, List.getElem_cons_zero, List.getElem_cons_succ]
  refine wpAnyH_take (i := 14) (v := .pointer (some ⟨mb, 0, none⟩)) rfl (by kernel_rfl) (by kernel_rfl) (by kernel_rfl) (fun _ _ _ h => h) (Or.inl ⟨by kernel_rfl, fun w hSw => by (go_simp)⟩) hHeld ?_
  try simp only [Act.put, List.setIfInBounds_toArray, List.set_cons_zero, List.set_cons_succ, List.getElem_toArray, List.getElem_cons_zero, List.getElem_cons_succ]
  refine wpAnyH_take (i := 15) (v := .slice q (A.length + B.length) cap) rfl (by kernel_rfl) (by kernel_rfl) (by kernel_rfl) (fun _ _ _ h => h) (Or.inl ⟨by kernel_rfl, fun w hSw => by (have z0 := hSw.1; go_simp)⟩) hHeld ?_
  try simp only [Act.put, List.setIfInBounds_toArray, List.set_cons_zero, List.set_cons_succ, List.getElem_toArray, List.getElem_cons_zero, List.getElem_cons_succ]
  refine wpAnyH_take (i := 16) (v := .int .i64 (A.length : Int)) rfl (by kernel_rfl) (by kernel_rfl) (by kernel_rfl) (fun _ _ _ h => h) (Or.inl ⟨by kernel_rfl, fun w hSw => by (go_simp)⟩) hHeld ?_
  try simp only [Act.put, List.setIfInBounds_toArray, List.set_cons_zero, List.set_cons_succ, List.getElem_toArray, List.getElem_cons_zero, List.getElem_cons_succ]
  refine wpAnyH_take (i := 17) (v := .slice (qF q cap A.length 5) B.length (cap - A.length)) rfl (by kernel_rfl) (by kernel_rfl) (by kernel_rfl) (fun _ _ _ h => h) (Or.inl ⟨by kernel_rfl, fun w hSw => by (go_simp)⟩) hHeld ?_
  try simp only [Act.put, List.setIfInBounds_toArray, List.set_cons_zero, List.set_cons_succ, List.getElem_toArray, List.getElem_cons_zero, List.getElem_cons_succ]
  refine wpAnyH_ready (rs := [7]) (by kernel_rfl) (by simp) ?_
  refine AllReadyH.cons (o := _) rfl (fun K9 hK9 => ?_) AllReadyH.nil
  refine Eq.mpr (if_pos (by kernel_rfl)) ?_
  refine gl_app0 _ _ rfl S A (by kernel_rfl) q cap (by kernel_rfl) (part_row HRA.out HK.out (fun g hg => by cases hg)) HLA.out ?_
  intro q1 d1 w11 hg11 hs11
  have G11 := Lib.hid (show GL 0 26 5 w11 (.slice q1 A.length d1) A.length (PN S A) from hg11)
  have OL11 := Lib.hid (show ∀ g, (Value.slice q1 A.length d1).ownBlock = some g → wI.heap.size ≤ g from new_of_nil hs11)
  have B11 := Lib.hid (show BK wI w11 from bk_step_nil hs11)
  have K11 := Lib.hid (show BK w2 w11 from bk_tr HK.out B11.out)
  have O11 := Lib.hid (show ∀ g, (Value.slice q1 A.length d1).ownBlock = some g → w2.heap.size ≤ g from fun g hg => Nat.le_trans (bk_size HK.out) (OL11.out g hg))
  have L11 := Lib.hid (show ∀ g, (Value.slice q1 A.length d1).ownBlock = some g → g < w11.heap.size from fun g hg => (G11.out.lt g hg).2)
  refine hK9.out _ _ (⟨cell_bk HS0.out K11.out, B5.keep HSB.out K11.out HGB.out⟩) (fun hHeld => ?_)
  clear hg11 hs11
  clear hK9 K9
  try simp only [Act.put, List.setIfInBounds_toArray, List.set_cons_zero, List.set_cons_succ, List.getElem_toArray, List.getElem_cons_zero, List.getElem_cons_succ]
  refine wpAnyH_ready (rs := [9]) (by kernel_rfl) (by simp) ?_
  refine AllReadyH.cons (o := _) rfl (fun K9 hK9 => ?_) AllReadyH.nil
  go_simp
  go_at_call 18; with_reducible refine (CP.out _ K11.out).mono ?_; rintro e9 w12 ⟨p1, c1, rfl, hr12, hb12⟩
  have K12 := Lib.hid (show BK w2 w12 from bk_tr K11.out hb12)
  have C12 := Lib.hid (show RowA (memO w2.heap.size w12 (.slice q1 A.length d1)) w12 p1 n.zs from ra_new hr12 (bk_size K11.out) (L11.out))
  have G12 := Lib.hid (G11.out.bk (PN.mono S A) hb12)
  have L12 := Lib.hid (show ∀ g, (Value.slice q1 A.length d1).ownBlock = some g → g < w12.heap.size from fun g hg => Nat.lt_of_lt_of_le (L11.out g hg) (bk_size hb12))
  refine hK9.out _ _ (⟨cell_bk HS0.out K12.out, B5.keep HSB.out K12.out HGB.out⟩) (fun hHeld => ?_)
  clear hr12 hb12
  clear hK9 K9
  try simp only [Act.put, List.setIfInBounds_toArray, List.set_cons_zero, List.set_cons_succ, List.getElem_toArray, List.getElem_cons_zero, List.getElem_cons_succ]
  refine wpAnyH_ready (rs := [10]) (by kernel_rfl) (by simp) ?_
  refine AllReadyH.cons (o := _) rfl (fun K9 hK9 => ?_) AllReadyH.nil
  go_simp
  have B13 := Lib.hid (bk_alloc (BK.refl w12) (.cells (cN n p1 c1) 26))
  have K13 := Lib.hid (bk_tr K12.out B13.out)
  have X13 := Lib.hid (one_new n c1 C12.out (bk_size K12.out) (L12.out))
  have G13 := Lib.hid (G12.out.bk (PN.mono S A) B13.out)
  have L13 := Lib.hid (show ∀ g, (Value.slice q1 A.length d1).ownBlock = some g → g < (w12.alloc (.cells (cN n p1 c1) 26)).heap.size from fun g hg => Nat.lt_of_lt_of_le (L12.out g hg) (bk_size B13.out))
  refine hK9.out _ _ (⟨cell_bk HS0.out K13.out, B5.keep HSB.out K13.out HGB.out⟩) (fun hHeld => ?_)
  have HH13 := Lib.hid hHeld
  clear hHeld
  unfold cN at K13 X13 B13 HH13 G13 L13
  generalize w12.alloc (.cells #[.int .i64 n.op, .int .i64 n.wd, .int .u64 n.vl, .string n.nm, .slice p1 n.zs.length c1] 26) = w13 at *
  generalize w12.heap.size = g1 at *
  have hHeld := HH13.out
  clear HH13
  clear hK9 K9
  try simp only [Act.put, List.setIfInBounds_toArray, List.set_cons_zero, List.set_cons_succ, List.getElem_toArray, List.getElem_cons_zero, List.getElem_cons_succ]
  refine wpAnyH_ready (rs := [11]) (by kernel_rfl) (by simp) ?_
  refine AllReadyH.cons (o := _) rfl (fun K9 hK9 => ?_) AllReadyH.nil
  refine Eq.mpr (if_pos (by kernel_rfl)) ?_
  refine gl_appN _ _ rfl S 0 (.slice q1 A.length d1) A.length 1 (A.length + 1) A [n] rfl rfl rfl (by kernel_rfl) G13.out (some ⟨g1, 0, none⟩) 1 (by kernel_rfl) (one_row X13.out HSS.out) (Nat.zero_le _) HLA.out (by omega) ?_
  intro q2 d2 w14 hg14 hs14
  have G14 := Lib.hid hg14
  have K14 := Lib.hid (show BK w2 w14 from bk_own K13.out hs14 O11.out)
  have O14 := Lib.hid (show ∀ g, (Value.slice q2 (A.length + 1) d2).ownBlock = some g → w2.heap.size ≤ g from own_keep hs14 O11.out (bk_size K13.out))
  refine hK9.out _ _ (⟨cell_bk HS0.out K14.out, B5.keep HSB.out K14.out HGB.out⟩) (fun hHeld => ?_)
  clear hg14 hs14
  clear hK9 K9
  try simp only [Act.put, List.setIfInBounds_toArray, List.set_cons_zero, List.set_cons_succ, List.getElem_toArray, List.getElem_cons_zero, List.getElem_cons_succ]
  refine wpAnyH_ready (rs := [18]) (by kernel_rfl) (by simp) ?_
  refine AllReadyH.cons (o := _) rfl (fun K9 hK9 => ?_) AllReadyH.nil
  refine Eq.mpr (if_pos (by kernel_rfl)) ?_
  refine gl_appN _ _ rfl S 0 (.slice q2 (A.length + 1) d2) (A.length + 1) B.length (A.length + 1 + B.length) (A ++ [n]) B (by simp) rfl rfl (by kernel_rfl) G14.out (qF q cap A.length 5) (cap - A.length) (by kernel_rfl) (part_row HRB.out K14.out O14.out) (Nat.zero_le _) HLAN.out HLB.out ?_
  intro q3 d3 w15 hg15 hs15
  have G15 := Lib.hid hg15
  have K15 := Lib.hid (show BK w2 w15 from bk_own K14.out hs15 O14.out)
  have O15 := Lib.hid (show ∀ g, (Value.slice q3 (A.length + 1 + B.length) d3).ownBlock = some g → w2.heap.size ≤ g from own_keep hs15 O14.out (bk_size K14.out))
  refine hK9.out _ _ (⟨cell_bk HS0.out K15.out, B5.keep HSB.out K15.out HGB.out⟩) (fun hHeld => ?_)
  clear hg15 hs15
  clear hK9 K9
  try simp only [Act.put, List.setIfInBounds_toArray, List.set_cons_zero, List.set_cons_succ, List.getElem_toArray, List.getElem_cons_zero, List.getElem_cons_succ]
  refine wpAnyH_take (i := 19) (v := .slice q3 (A.length + 1 + B.length) d3) rfl (by kernel_rfl) (by kernel_rfl) (by kernel_rfl) (fun _ _ _ h => h) (Or.inl ⟨by kernel_rfl, fun w hSw => by (go_simp)⟩) hHeld ?_
  try simp only [Act.put, List.setIfInBounds_toArray, List.set_cons_zero, List.set_cons_succ, List.getElem_toArray, List.getElem_cons_zero, List.getElem_cons_succ]
  refine wpAnyH_done (by kernel_rfl) ?_ _
  have G6 := Lib.hid G15.out
  have K6 := Lib.hid (bk_tr K2.out K15.out)
  have O6 := Lib.hid (show ∀ g, (Value.slice q3 (A.length + 1 + B.length) d3).ownBlock = some g → gb ≤ g from fun g hg => Nat.le_trans Z2.out (O15.out g hg))
  clear hHeld
  generalize w15 = w6 at *
  go_wp2_with fail
  have J1 := Lib.hid (cell_bk HC.out.2 K6.out)
  have IA := Lib.hid (H2.out.1.keep (bk_dom K6.out))
  have IB := Lib.hid (H2.out.2.keep (bk_dom K6.out))
  refine wp_region_held_drew (S := fun w' => w'.cell? ⟨mb, 1, none⟩ = some (.slice q' (A.length + B.length) cap')) (by kernel_rfl) (J1.out) (fun hHeld => ?_)
  have HK7 := Lib.hid (bk_drew (BK.refl w6))
  generalize w6.drew = wJ at hHeld HK7 ⊢
  refine wpAnyH_take (i := 0) (v := .slice none 0 0) rfl (by kernel_rfl) (by kernel_rfl) (by kernel_rfl) (fun _ _ _ h => h) (Or.inl ⟨by kernel_rfl, fun w hSw => by (go_simp)⟩) hHeld ?_
  try simp only [Act.put, List.setIfInBounds_toArray, List.set_cons_zero, List.set_cons_succ, List.getElem_toArray, List.getElem_cons_zero, List.getElem_cons_succ]
  refine wpAnyH_take (i := 1) (v := .pointer (some ⟨mb, 0, none⟩)) rfl (by kernel_rfl) (by kernel_rfl) (by kernel_rfl) (fun _ _ _ h => h) (Or.inl ⟨by kernel_rfl, fun w hSw => by (go_simp)⟩) hHeld ?_
  try simp only [Act.put, List.setIfInBounds_toArray, List.set_cons_zero, List.set_cons_succ, List.getElem_toArray, List.getElem_cons_zero, List.getElem_cons_succ]
  refine wpAnyH_take (i := 2) (v := .pointer (some ⟨mb, 0, none⟩)) rfl (by kernel_rfl) (by kernel_rfl) (by kernel_rfl) (fun _ _ _ h => h) (Or.inl ⟨by kernel_rfl, fun w hSw => by (go_simp)⟩) hHeld ?_
  try simp only [Act.put, List.setIfInBounds_toArray, List.set_cons_zero, List.set_cons_succ, List.getElem_toArray, List.getElem_cons_zero, List.getElem_cons_succ]
  refine wpAnyH_take (i := 3) (v := .pointer (some ⟨mb, 1, none⟩)) rfl (by kernel_rfl) (by kernel_rfl) (by kernel_rfl) (fun _ _ _ h => h) (Or.inl ⟨by kernel_rfl, fun w hSw => by (go_simp)⟩) hHeld ?_
  try simp only [Act.put, List.setIfInBounds_toArray, List.set_cons_zero, List.set_cons_succ, List.getElem_toArray, List.getElem_cons_zero, List.getElem_cons_succ]
  refine wpAnyH_take (i := 4) (v := .slice q' (A.length + B.length) cap') rfl (by kernel_rfl) (by kernel_rfl) (by kernel_rfl) (fun _ _ _ h => h) (Or.inl ⟨by kernel_rfl, fun w hSw => by (have z0 := hSw; go_simp)⟩) hHeld ?_
  try simp only [Act.put, List.setIfInBounds_toArray, List.set_cons_zero, List.set_cons_succ, List.getElem_toArray, List.getElem_cons_zero, List.getElem_cons_succ]
  refine wpAnyH_take (i := 5) (v := .int .i64 (A.length : Int)) rfl (by kernel_rfl) (by kernel_rfl) (by kernel_rfl) (fun _ _ _ h => h) (Or.inl ⟨by kernel_rfl, fun w hSw => by (go_simp)⟩) hHeld ?_
  try simp only [Act.put, List.setIfInBounds_toArray, List.set_cons_zero, List.set_cons_succ, List.getElem_toArray, List.getElem_cons_zero, List.getElem_cons_succ]
  refine wpAnyH_take (i := 6) (v := .slice q' A.length cap') rfl (by kernel_rfl) (by kernel_rfl) (by kernel_rfl) (fun _ _ _ h => h) (Or.inl ⟨by kernel_rfl, fun w hSw => by (go_simp)⟩) hHeld ?_
  try simp only [Act.put, List.setIfInBounds_toArray, List.set_cons_zero, List.set_cons_succ, List.getElem_toArray, List.getElem_cons_zero, List.getElem_cons_succ]
  refine wpAnyH_take (i := 8) (v := .int .i64 id) rfl (by kernel_rfl) (by kernel_rfl) (by kernel_rfl) (fun _ _ _ h => h) (Or.inl ⟨by kernel_rfl, fun w hSw => by (go_simp)⟩) hHeld ?_
  try simp only [Act.put, List.setIfInBounds_toArray, List.set_cons_zero, List.set_cons_succ, List.getElem_toArray, List.getElem_cons_zero, List.getElem_cons_succ]
  refine wpAnyH_take (i := 11) (v := .pointer (some ⟨mb, 0, none⟩)) rfl (by kernel_rfl) (by kernel_rfl) (by kernel_rfl) (fun _ _ _ h => h) (Or.inl ⟨by kernel_rfl, fun w hSw => by (go_simp)⟩) hHeld ?_
  try simp only [Act.put, List.setIfInBounds_toArray, List.set_cons_zero, List.set_cons_succ, List.getElem_toArray, List.getElem_cons_zero, List.getElem_cons_succ]
  refine wpAnyH_take (i := 12) (v := .pointer (some ⟨mb, 0, none⟩)) rfl (by kernel_rfl) (by kernel_rfl) (by kernel_rfl) (fun _ _ _ h => h) (Or.inl ⟨by kernel_rfl, fun w hSw => by (go_simp)⟩) hHeld ?_
  try simp only [Act.put, List.setIfInBounds_toArray, List.set_cons_zero, List.set_cons_succ, List.getElem_toArray, List.getElem_cons_zero, List.getElem_cons_succ]
  refine wpAnyH_take (i := 13) (v := .pointer (some ⟨mb, 1, none⟩)) rfl (by kernel_rfl) (by kernel_rfl) (by kernel_rfl) (fun _ _ _ h => h) (Or.inl ⟨by kernel_rfl, fun w hSw => by (go_simp)⟩) hHeld ?_
  try simp only [Act.put, List.setIfInBounds_toArray, List.set_cons_zero, List.set_cons_succ, List.getElem_toArray, List.getElem_cons_zero, List.getElem_cons_succ]
  refine wpAnyH_take (i := 14) (v := .slice q' (A.length + B.length) cap') rfl (by kernel_rfl) (by kernel_rfl) (by kernel_rfl) (fun _ _ _ h => h) (Or.inl ⟨by kernel_rfl, fun w hSw => by (have z0 := hSw; go_simp)⟩) hHeld ?_
  try simp only [Act.put, List.setIfInBounds_toArray, List.set_cons_zero, List.set_cons_succ, List.getElem_toArray, List.getElem_cons_zero, List.getElem_cons_succ]
  refine wpAnyH_take (i := 15) (v := .int .i64 (A.length : Int)) rfl (by kernel_rfl) (by kernel_rfl) (by kernel_rfl) (fun _ _ _ h => h) (Or.inl ⟨by kernel_rfl, fun w hSw => by (go_simp)⟩) hHeld ?_
  try simp only [Act.put, List.setIfInBounds_toArray, List.set_cons_zero, List.set_cons_succ, List.getElem_toArray, List.getElem_cons_zero, List.getElem_cons_succ]
  refine wpAnyH_take (i := 16) (v := .slice (qF q' cap' A.length 1) B.length (cap' - A.length)) rfl (by kernel_rfl) (by kernel_rfl) (by kernel_rfl) (fun _ _ _ h => h) (Or.inl ⟨by kernel_rfl, fun w hSw => by (go_simp)⟩) hHeld ?_
  try simp only [Act.put, List.setIfInBounds_toArray, List.set_cons_zero, List.set_cons_succ, List.getElem_toArray, List.getElem_cons_zero, List.getElem_cons_succ]
  refine wpAnyH_ready (rs := [7, 9]) (by kernel_rfl) (by simp) ?_
  refine AllReadyH.cons (o := _) rfl (fun K9 hK9 => ?_) (AllReadyH.cons (o := _) rfl (fun K9 hK9 => ?_) AllReadyH.nil)
  · refine Eq.mpr (if_pos (by kernel_rfl)) ?_
    refine li_appN _ _ rfl w6.heap.size (.slice none 0 0) 0 A.length [] A' rfl HIA.out.1 (by kernel_rfl) (World.ownsRow_nil _ _ _ _) q' cap' (by kernel_rfl) (dom S wJ) (IA.out.keep (bk_dom HK7.out)) (bk_size HK7.out) (Nat.zero_le _) HLA.out A.length (Nat.zero_add _) ?_
    intro q4 d4 w16 hg16 hs16
    rw [List.nil_append] at hg16
    have I16 := Lib.hid hg16
    have K16 := Lib.hid (show BK w6 w16 from bk_tr HK7.out (bk_step_nil hs16))
    have O16 := Lib.hid (show ∀ g, (Value.slice q4 A.length d4).ownBlock = some g → w6.heap.size ≤ g from fun g hg => (I16.out.lt g hg).1)
    refine hK9.out _ _ (cell_bk J1.out K16.out) (fun hHeld => ?_)
    clear hg16 hs16
    clear hK9 K9
    try simp only [Act.put, List.setIfInBounds_toArray, List.set_cons_zero, List.set_cons_succ, List.getElem_toArray, List.getElem_cons_zero, List.getElem_cons_succ]
    refine wpAnyH_ready (rs := [9]) (by kernel_rfl) (by simp) ?_
    refine AllReadyH.cons (o := _) rfl (fun K9 hK9 => ?_) AllReadyH.nil
    go_simp
    have K17 := Lib.hid (bk_tr K16.out (bk_alloc (BK.refl w16) (.cells #[.int .i64 id] 3)))
    have X17 := Lib.hid (show (w16.alloc (.cells #[.int .i64 id] 3)).cell? ⟨w16.heap.size, 0, none⟩ = some (.int .i64 id) from by rw [World.cell?_alloc_new]; rfl)
    have I17 := Lib.hid (own_below I16.out (bk_alloc (BK.refl w16) (.cells #[.int .i64 id] 3)))
    refine hK9.out _ _ (cell_bk J1.out K17.out) (fun hHeld => ?_)
    generalize w16.alloc (.cells #[.int .i64 id] 3) = w17 at *
    generalize w16.heap.size = g2 at *
    clear hK9 K9
    try simp only [Act.put, List.setIfInBounds_toArray, List.set_cons_zero, List.set_cons_succ, List.getElem_toArray, List.getElem_cons_zero, List.getElem_cons_succ]
    refine wpAnyH_ready (rs := [10]) (by kernel_rfl) (by simp) ?_
    refine AllReadyH.cons (o := _) rfl (fun K9 hK9 => ?_) AllReadyH.nil
    refine Eq.mpr (if_pos (by kernel_rfl)) ?_
    refine li_appN _ _ rfl w6.heap.size (.slice q4 A.length d4) A.length 1 A' [id] HIA.out.1 rfl (by kernel_rfl) I17.out (some ⟨g2, 0, none⟩) 1 (by kernel_rfl) (fun _ => True) (.inr ⟨g2, 0, rfl, trivial, fun k hk => by (have : k = 0 := by simpa using hk); subst this; exact X17.out, by simp⟩) (bk_size K17.out) HLA.out (by omega) (A.length + 1) rfl ?_
    intro q5 d5 w18 hg18 hs18
    have I18 := Lib.hid hg18
    have K18 := Lib.hid (show BK w6 w18 from bk_own K17.out hs18 O16.out)
    have O18 := Lib.hid (show ∀ g, (Value.slice q5 (A.length + 1) d5).ownBlock = some g → w6.heap.size ≤ g from fun g hg => (I18.out.lt g hg).1)
    refine hK9.out _ _ (cell_bk J1.out K18.out) (fun hHeld => ?_)
    clear hg18 hs18
    clear hK9 K9
    try simp only [Act.put, List.setIfInBounds_toArray, List.set_cons_zero, List.set_cons_succ, List.getElem_toArray, List.getElem_cons_zero, List.getElem_cons_succ]
    refine wpAnyH_ready (rs := [17]) (by kernel_rfl) (by simp) ?_
    refine AllReadyH.cons (o := _) rfl (fun K9 hK9 => ?_) AllReadyH.nil
    refine Eq.mpr (if_pos (by kernel_rfl)) ?_
    refine li_appN _ _ rfl w6.heap.size (.slice q5 (A.length + 1) d5) (A.length + 1) B.length (A' ++ [id]) B' (by rw [List.length_append, HIA.out.1]; rfl) HIA.out.2 (by kernel_rfl) I18.out (qF q' cap' A.length 1) (cap' - A.length) (by kernel_rfl) (dom S w18) (IB.out.keep (bk_dom K18.out)) (bk_size K18.out) HLAN.out HLB.out (A.length + 1 + B.length) rfl ?_
    intro q6 d6 w19 hg19 hs19
    have I19 := Lib.hid hg19
    have K19 := Lib.hid (show BK w6 w19 from bk_own K18.out hs19 O18.out)
    refine hK9.out _ _ (cell_bk J1.out K19.out) (fun hHeld => ?_)
    clear hg19 hs19
    clear hK9 K9
    try simp only [Act.put, List.setIfInBounds_toArray, List.set_cons_zero, List.set_cons_succ, List.getElem_toArray, List.getElem_cons_zero, List.getElem_cons_succ]
    refine wpAnyH_take (i := 18) (v := .slice q6 (A.length + 1 + B.length) d6) rfl (by kernel_rfl) (by kernel_rfl) (by kernel_rfl) (fun _ _ _ h => h) (Or.inl ⟨by kernel_rfl, fun w hSw => by (go_simp)⟩) hHeld ?_
    try simp only [Act.put, List.setIfInBounds_toArray, List.set_cons_zero, List.set_cons_succ, List.getElem_toArray, List.getElem_cons_zero, List.getElem_cons_succ]
    refine wpAnyH_done (by kernel_rfl) ?_ _
    have G8 := Lib.hid (G6.out.bk (PN.mono S _) K19.out)
    have K8 := Lib.hid (bk_tr K6.out K19.out)
    have I8 := Lib.hid I19.out
    clear hHeld
    generalize w19 = w8 at *
    have x0 := cell_bk HC.out.1 K8.out
    have x1 := cell_bk HC.out.2 K8.out
    have y0 := (bk_frozen K8.out HMW.out 0).trans HF.out.1
    have y1 := (bk_frozen K8.out HMW.out 1).trans HF.out.2
    have X0 := Lib.hid x0
    have X1 := Lib.hid x1
    have Y0 := Lib.hid y0
    have Y1 := Lib.hid y1
    have EL := Lib.hid (show A.length + 1 + B.length = (A ++ [n] ++ B).length from by simp; omega)
    have EM := Lib.hid (show A.length + 1 + B.length = (A' ++ id :: B').length from by rw [List.length_append, List.length_cons, HIA.out.1, HIA.out.2]; omega)
    have EI := Lib.hid (show A' ++ id :: B' = A' ++ [id] ++ B' from by simp)
    go_wp2_with fail
    go_ret
    refine ⟨rfl, ?_, ?_⟩
    · have i8 := I8.out
      rw [EM.out, ← EI.out] at i8
      have g8 := G8.out
      have o8 := O6.out
      rw [EL.out] at g8 o8
      have R := rt_put (Nat.lt_of_lt_of_le HMW.out (bk_size K8.out)) NS.out X0.out X1.out Y0.out Y1.out g8 o8 i8 HSS0.out (by have := bk_size K6.out; rw [GBE.out] at this; exact this)
      rw [← EL.out, ← EM.out] at R
      exact R
    · have K8' := K8.out
      exact ⟨K8'.bl'.os, K8'.bl'.tape, K8'.bl'.output, by rw [size_setCell2]; exact bk_size K8', fun k hk hne => by rw [Below.heap_setCell _ _ _ _ hne, Below.heap_setCell _ _ _ _ hne]; exact bk_block K8' hk, fun k h => .inl h⟩
  · go_simp
    have K20 := Lib.hid (bk_tr HK7.out (bk_alloc (BK.refl wJ) (.cells #[.int .i64 id] 3)))
    have X20 := Lib.hid (show (wJ.alloc (.cells #[.int .i64 id] 3)).cell? ⟨wJ.heap.size, 0, none⟩ = some (.int .i64 id) from by rw [World.cell?_alloc_new]; rfl)
    refine hK9.out _ _ (cell_bk J1.out K20.out) (fun hHeld => ?_)
    generalize wJ.alloc (.cells #[.int .i64 id] 3) = w20 at *
    generalize wJ.heap.size = g2 at *
    clear hK9 K9
    try simp only [Act.put, List.setIfInBounds_toArray, List.set_cons_zero, List.set_cons_succ, List.getElem_toArray, List.getElem_cons_zero, List.getElem_cons_succ]
    refine wpAnyH_ready (rs := [7]) (by kernel_rfl) (by simp) ?_
    refine AllReadyH.cons (o := _) rfl (fun K9 hK9 => ?_) AllReadyH.nil
    refine Eq.mpr (if_pos (by kernel_rfl)) ?_
    refine li_appN _ _ rfl w6.heap.size (.slice none 0 0) 0 A.length [] A' rfl HIA.out.1 (by kernel_rfl) (World.ownsRow_nil _ _ _ _) q' cap' (by kernel_rfl) (dom S w20) (IA.out.keep (bk_dom K20.out)) (bk_size K20.out) (Nat.zero_le _) HLA.out A.length (Nat.zero_add _) ?_
    intro q4 d4 w21 hg21 hs21
    rw [List.nil_append] at hg21
    have I21 := Lib.hid hg21
    have K21 := Lib.hid (show BK w6 w21 from bk_tr K20.out (bk_step_nil hs21))
    have O21 := Lib.hid (show ∀ g, (Value.slice q4 A.length d4).ownBlock = some g → w6.heap.size ≤ g from fun g hg => (I21.out.lt g hg).1)
    have X21 := Lib.hid (cell_bk X20.out (bk_step_nil hs21))
    refine hK9.out _ _ (cell_bk J1.out K21.out) (fun hHeld => ?_)
    clear hg21 hs21
    clear hK9 K9
    try simp only [Act.put, List.setIfInBounds_toArray, List.set_cons_zero, List.set_cons_succ, List.getElem_toArray, List.getElem_cons_zero, List.getElem_cons_succ]
    refine wpAnyH_ready (rs := [10]) (by kernel_rfl) (by simp) ?_
    refine AllReadyH.cons (o := _) rfl (fun K9 hK9 => ?_) AllReadyH.nil
    refine Eq.mpr (if_pos (by kernel_rfl)) ?_
    refine li_appN _ _ rfl w6.heap.size (.slice q4 A.length d4) A.length 1 A' [id] HIA.out.1 rfl (by kernel_rfl) I21.out (some ⟨g2, 0, none⟩) 1 (by kernel_rfl) (fun _ => True) (.inr ⟨g2, 0, rfl, trivial, fun k hk => by (have : k = 0 := by simpa using hk); subst this; exact X21.out, by simp⟩) (bk_size K21.out) HLA.out (by omega) (A.length + 1) rfl ?_
    intro q5 d5 w22 hg22 hs22
    have I22 := Lib.hid hg22
    have K22 := Lib.hid (show BK w6 w22 from bk_own K21.out hs22 O21.out)
    have O22 := Lib.hid (show ∀ g, (Value.slice q5 (A.length + 1) d5).ownBlock = some g → w6.heap.size ≤ g from fun g hg => (I22.out.lt g hg).1)
    refine hK9.out _ _ (cell_bk J1.out K22.out) (fun hHeld => ?_)
    clear hg22 hs22
    clear hK9 K9
    try simp only [Act.put, List.setIfInBounds_toArray, List.set_cons_zero, List.set_cons_succ, List.getElem_toArray, List.getElem_cons_zero, List.getElem_cons_succ]
    refine wpAnyH_ready (rs := [17]) (by kernel_rfl) (by simp) ?_
    refine AllReadyH.cons (o := _) rfl (fun K9 hK9 => ?_) AllReadyH.nil
    refine Eq.mpr (if_pos (by kernel_rfl)) ?_
    refine li_appN _ _ rfl w6.heap.size (.slice q5 (A.length + 1) d5) (A.length + 1) B.length (A' ++ [id]) B' (by rw [List.length_append, HIA.out.1]; rfl) HIA.out.2 (by kernel_rfl) I22.out (qF q' cap' A.length 1) (cap' - A.length) (by kernel_rfl) (dom S w22) (IB.out.keep (bk_dom K22.out)) (bk_size K22.out) HLAN.out HLB.out (A.length + 1 + B.length) rfl ?_
    intro q6 d6 w23 hg23 hs23
    have I23 := Lib.hid hg23
    have K23 := Lib.hid (show BK w6 w23 from bk_own K22.out hs23 O22.out)
    refine hK9.out _ _ (cell_bk J1.out K23.out) (fun hHeld => ?_)
    clear hg23 hs23
    clear hK9 K9
    try simp only [Act.put, List.setIfInBounds_toArray, List.set_cons_zero, List.set_cons_succ, List.getElem_toArray, List.getElem_cons_zero, List.getElem_cons_succ]
    refine wpAnyH_take (i := 18) (v := .slice q6 (A.length + 1 + B.length) d6) rfl (by kernel_rfl) (by kernel_rfl) (by kernel_rfl) (fun _ _ _ h => h) (Or.inl ⟨by kernel_rfl, fun w hSw => by (go_simp)⟩) hHeld ?_
    try simp only [Act.put, List.setIfInBounds_toArray, List.set_cons_zero, List.set_cons_succ, List.getElem_toArray, List.getElem_cons_zero, List.getElem_cons_succ]
    refine wpAnyH_done (by kernel_rfl) ?_ _
    have G8 := Lib.hid (G6.out.bk (PN.mono S _) K23.out)
    have K8 := Lib.hid (bk_tr K6.out K23.out)
    have I8 := Lib.hid I23.out
    clear hHeld
    generalize w23 = w8 at *
    have x0 := cell_bk HC.out.1 K8.out
    have x1 := cell_bk HC.out.2 K8.out
    have y0 := (bk_frozen K8.out HMW.out 0).trans HF.out.1
    have y1 := (bk_frozen K8.out HMW.out 1).trans HF.out.2
    have X0 := Lib.hid x0
    have X1 := Lib.hid x1
    have Y0 := Lib.hid y0
    have Y1 := Lib.hid y1
    have EL := Lib.hid (show A.length + 1 + B.length = (A ++ [n] ++ B).length from by simp; omega)
    have EM := Lib.hid (show A.length + 1 + B.length = (A' ++ id :: B').length from by rw [List.length_append, List.length_cons, HIA.out.1, HIA.out.2]; omega)
    have EI := Lib.hid (show A' ++ id :: B' = A' ++ [id] ++ B' from by simp)
    go_wp2_with fail
    go_ret
    refine ⟨rfl, ?_, ?_⟩
    · have i8 := I8.out
      rw [EM.out, ← EI.out] at i8
      have g8 := G8.out
      have o8 := O6.out
      rw [EL.out] at g8 o8
      have R := rt_put (Nat.lt_of_lt_of_le HMW.out (bk_size K8.out)) NS.out X0.out X1.out Y0.out Y1.out g8 o8 i8 HSS0.out (by have := bk_size K6.out; rw [GBE.out] at this; exact this)
      rw [← EL.out, ← EM.out] at R
      exact R
    · have K8' := K8.out
      exact ⟨K8'.bl'.os, K8'.bl'.tape, K8'.bl'.output, by rw [size_setCell2]; exact bk_size K8', fun k hk hne => by rw [Below.heap_setCell _ _ _ _ hne, Below.heap_setCell _ _ _ _ hne]; exact bk_block K8' hk, fun k h => .inl h⟩
end Go.Proofs.YtclefcjojlkcnaaDoor.G
