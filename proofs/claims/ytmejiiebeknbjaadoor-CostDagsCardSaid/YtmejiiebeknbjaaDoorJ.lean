/- The closure that numbers the subterms. -/
import Derived.Test.YtmejiiebeknbjaaDoorI
import Derived.Deep.MidRow
import Derived.Deep.RegionLaw
namespace Go.Proofs.YtmejiiebeknbjaaDoor
open Go.RowKit Go.Maps
set_option linter.unusedVariables false
set_option linter.unusedSimpArgs false
/-- the variables of Dag -/
structure DG (w : World) (nb qb sb cb mb : Nat) (cs : List Int) (S : List T) : Prop where
  n : w.cell? ⟨nb, 0, none⟩ = some (.func (Fn.func 26) #[] #[.pointer (some ⟨nb, 0, none⟩), .pointer (some ⟨qb, 0, none⟩), .pointer (some ⟨sb, 0, none⟩), .pointer (some ⟨cb, 0, none⟩)])
  q : w.cell? ⟨qb, 0, none⟩ = some (.map (some mb))
  s : w.cell? ⟨sb, 0, none⟩ = some (.int .i64 (sumC cs S))
  fs : w.frozen? ⟨sb, 0, none⟩ = false
  c : w.heap[cb]? = some (.cells (ca cs) 23 (0, 0))
  m : ∃ D, w.ownsMap Tryd.prog 53 (plainElem Tryd.prog 3) mb S.length D ∧ MD D S
  n1 : nb ≠ sb
  n2 : qb ≠ sb
  n3 : cb ≠ sb
/-- what a call leaves alone -/
structure FD (w w' : World) (sb mb : Nat) : Prop where
  size : w.heap.size ≤ w'.heap.size
  blk : ∀ b, b < w.heap.size → b ≠ sb → b ≠ mb → w'.heap[b]? = w.heap[b]?
  bel : ∀ w0, BK w0 w → w0.heap.size ≤ sb → w0.heap.size ≤ mb → BK w0 w'
theorem FD.refl (w : World) (sb mb : Nat) : FD w w sb mb := ⟨Nat.le_refl _, fun _ _ _ _ => rfl, fun _ h _ _ => h⟩
theorem FD.trans {a b c : World} {sb mb : Nat} (h : FD a b sb mb) (k : FD b c sb mb) : FD a c sb mb :=
  ⟨Nat.le_trans h.size k.size, fun j hj h1 h2 => (k.blk j (Nat.lt_of_lt_of_le hj h.size) h1 h2).trans (h.blk j hj h1 h2), fun w0 h0 h1 h2 => k.bel w0 (h.bel w0 h0 h1 h2) h1 h2⟩
theorem FD.ofBK {a b : World} {sb mb : Nat} (h : BK a b) : FD a b sb mb :=
  ⟨bk_size h, fun j hj _ _ => (show Below a.heap.size a b from h).block j hj, fun w0 h0 _ _ => bk_tr h0 h⟩
theorem ownm_at {w w' : World} {b n : Nat} {D : DataW Unit} (h : w.ownsMap Tryd.prog 53 (plainElem Tryd.prog 3) b n D) (hb : w'.heap[b]? = w.heap[b]?) : w'.ownsMap Tryd.prog 53 (plainElem Tryd.prog 3) b n D := by
  obtain ⟨es, cl, h1, h2⟩ := h
  exact ⟨es, cl, hb.trans h1, h2⟩
theorem DG.lt {w : World} {nb qb sb cb mb : Nat} {cs : List Int} {S : List T} (h : DG w nb qb sb cb mb cs S) : sb < w.heap.size ∧ mb < w.heap.size ∧ nb < w.heap.size ∧ qb < w.heap.size ∧ cb < w.heap.size := by
  obtain ⟨D, h1, _⟩ := h.m
  exact ⟨World.block_lt_of_cell? w _ h.s, h1.lt, World.block_lt_of_cell? w _ h.n, World.block_lt_of_cell? w _ h.q, (Array.getElem?_eq_some_iff.1 h.c).1⟩
theorem DG.keep {w w' : World} {nb qb sb cb mb : Nat} {cs : List Int} {S : List T} (h : DG w nb qb sb cb mb cs S) (hb : BK w w') : DG w' nb qb sb cb mb cs S := by
  have hb' : Below w.heap.size w w' := hb
  obtain ⟨D, h1, h2⟩ := h.m
  exact ⟨(hb'.cell (p := ⟨nb, 0, none⟩) (World.block_lt_of_cell? w _ h.n)).trans h.n, (hb'.cell (p := ⟨qb, 0, none⟩) (World.block_lt_of_cell? w _ h.q)).trans h.q, (hb'.cell (p := ⟨sb, 0, none⟩) (World.block_lt_of_cell? w _ h.s)).trans h.s, (hb'.frozen (p := ⟨sb, 0, none⟩) (World.block_lt_of_cell? w _ h.s)).trans h.fs, (hb'.block cb (Array.getElem?_eq_some_iff.1 h.c).1).trans h.c, ⟨D, ownm_at h1 (hb'.block mb h1.lt), h2⟩, h.n1, h.n2, h.n3⟩
def PD (cs : List Int) (t : T) : Prop := ∀ op wd vl nm ts, t = .mk op wd vl nm ts → ∀ (wS w : World) (p : Option Addr) (c nb qb sb cb mb : Nat) (S : List T), Row wS p c ts → Wf op wd vl nm → Tb wS → BK wS w → DG w nb qb sb cb mb cs S → Closed S → S.length + size t ≤ 1000 → wS.heap.size ≤ sb → wS.heap.size ≤ mb →
  Calls Tryd.prog 26 #[.agg #[.int .i64 op, .int .i64 wd, .int .u64 vl, .string nm, .slice p ts.length c], .pointer (some ⟨nb, 0, none⟩), .pointer (some ⟨qb, 0, none⟩), .pointer (some ⟨sb, 0, none⟩), .pointer (some ⟨cb, 0, none⟩)] w fun e w' => e = .returned (.int .i64 (pos (subsT S t) t)) ∧ DG w' nb qb sb cb mb cs (subsT S t) ∧ FD w w' sb mb
theorem info3 : (Tryd.prog.info? 3).map (fun i => (i.zero, i.size, i.bytes)) = some (some (.int .i64 0), 1, 8) := by kernel_rfl
theorem zero3 (w : World) : (zeroValue 3).run Tryd.prog w = .ok (.int .i64 0) w := by kernel_rfl
theorem sizeL_take (ts : List T) : ∀ k, k ≤ ts.length → sizeL (ts.take k) ≤ sizeL ts := by
  induction ts with
  | nil => intro k _; simp
  | cons t ts ih =>
    intro k hk
    cases k with
    | zero => simp [sizeL]
    | succ k => simp only [List.take_succ_cons, sizeL]; have := ih k (by simpa using hk); omega
theorem sizeL_get (ts : List T) : ∀ k (h : k < ts.length), sizeL (ts.take k) + size ts[k] ≤ sizeL ts := by
  induction ts with
  | nil => intro k h; simp at h
  | cons t ts ih =>
    intro k hk
    cases k with
    | zero => simp [sizeL]
    | succ k => simp only [List.take_succ_cons, sizeL, List.getElem_cons_succ]; have := ih k (by simpa using hk); omega
theorem len_sizeL (ts : List T) : ts.length ≤ sizeL ts := by
  induction ts with
  | nil => simp
  | cons t ts ih => simp only [List.length_cons, sizeL]; have := size_pos t; omega
theorem opn_snoc (S ts : List T) (k : Nat) (h : k < ts.length) : opn (subsL S (ts.take (k + 1))) (ts.take (k + 1)) = opn (subsL S (ts.take k)) (ts.take k) ++ [((pos (subsL S (ts.take (k + 1))) ts[k] : Nat) : Int)] := by
  obtain ⟨l, hl, _⟩ := subs_ext ts[k] (subsL S (ts.take k))
  rw [List.take_succ_eq_append_getElem h]
  have e : subsL S (ts.take k ++ [ts[k]]) = subsL S (ts.take k) ++ l := by rw [subsL_app, subsL_cons, subsL_nil, hl]
  have e2 : opn (subsL S (ts.take k ++ [ts[k]])) (ts.take k) = opn (subsL S (ts.take k)) (ts.take k) := by
    rw [e]; exact opn_app (fun u hu => subsL_all (ts.take k) S u hu) l
  unfold opn at e2 ⊢
  rw [List.map_append, e2]; rfl
theorem ints_snoc (L : List Int) (z : Int) : ints (L ++ [z]) = ints L ++ [.int .i64 z] := by simp [ints]
/-- nothing below a base changes -/
structure BKX (B : Nat) (w w' : World) : Prop where
  size : w.heap.size ≤ w'.heap.size
  blk : ∀ b, b < w.heap.size → b < B → w'.heap[b]? = w.heap[b]?
  bel : ∀ w0, BK w0 w → w0.heap.size ≤ B → BK w0 w'
theorem BKX.dg {B : Nat} {w w' : World} {nb qb sb cb mb : Nat} {cs : List Int} {S : List T} (x : BKX B w w') (h : DG w nb qb sb cb mb cs S) (hn : nb < B ∧ qb < B) (hs : sb < B ∧ mb < B ∧ cb < B) : DG w' nb qb sb cb mb cs S := by
  have cell : ∀ b o u, b < B → w.cell? ⟨b, o, none⟩ = some u → w'.cell? ⟨b, o, none⟩ = some u := fun b o u hb hc => (World.cell?_of_block (a := ⟨b, o, none⟩) (x.blk b (World.block_lt_of_cell? w _ hc) hb)).trans hc
  obtain ⟨D, h1, h2⟩ := h.m
  exact ⟨cell _ _ _ hn.1 h.n, cell _ _ _ hn.2 h.q, cell _ _ _ hs.1 h.s, (World.frozen?_of_block (a := ⟨sb, 0, none⟩) (x.blk sb h.lt.1 hs.1)).trans h.fs, (x.blk cb (Array.getElem?_eq_some_iff.1 h.c).1 hs.2.2).trans h.c, ⟨D, ownm_at h1 (x.blk mb h.lt.2.1 hs.2.1), h2⟩, h.n1, h.n2, h.n3⟩
theorem wf_pos {n : Nat} (h : n ≤ 1000) : (Lit.int .i64 (n : Int)).wf = true := by
  simp [Lit.wf, IntKind.min, IntKind.max, IntKind.signed, IntKind.bits]; omega
theorem DG.ne {w : World} {nb qb sb cb mb : Nat} {cs : List Int} {S : List T} (h : DG w nb qb sb cb mb cs S) : sb ≠ mb ∧ nb ≠ mb ∧ qb ≠ mb ∧ cb ≠ mb := by
  obtain ⟨D, ⟨es, cl, h1, _⟩, _⟩ := h.m
  have no : ∀ b o u, w.cell? ⟨b, o, none⟩ = some u → b ≠ mb := fun b o u hc e => by
    subst e
    unfold World.cell? at hc
    simp [h1] at hc
  refine ⟨no _ _ _ h.s, no _ _ _ h.n, no _ _ _ h.q, fun e => ?_⟩
  have := h.c
  rw [e, h1] at this
  cases this
theorem keep2 {w : World} {sb cb xb : Nat} {opv : Value} {L : List Value} (h : w.rangeAt cb 0 L ∧ w.cell? ⟨xb, 0, none⟩ = some opv) (h1 : cb ≠ sb) (h2 : xb ≠ sb) (v : Value) : (w.setCell ⟨sb, 0, none⟩ v).rangeAt cb 0 L ∧ (w.setCell ⟨sb, 0, none⟩ v).cell? ⟨xb, 0, none⟩ = some opv :=
  ⟨fun j u hu => (World.cell?_of_block (a := ⟨cb, 0 + j, none⟩) (Below.heap_setCell w ⟨sb, 0, none⟩ v cb h1)).trans (h.1 j u hu), (World.cell?_of_block (a := ⟨xb, 0, none⟩) (Below.heap_setCell w ⟨sb, 0, none⟩ v xb h2)).trans h.2⟩
theorem step_load_row {P : Program} {ops : Array Oper} {o : Oper} {a : Act} {w : World} {K : Act → World → Prop} {Q : Exit → Act → World → Prop} {E : Prop} (hgd : o.guard = none) (ty : TypeId) (x : Operand) (ho : o.op = .load ty x)
    (g : Nat) (hx : a.eval x = .pointer (some ⟨g, 0, none⟩)) (t : TypeId) (cs : Array Value) (fr : Nat × Nat) (d : TypeDesc) (hg : w.heap[g]? = some (.cells cs t fr))
    (hu : P.underlying ty = some d) (hd : (match d with | .struct _ | .array _ _ => true | _ => false) = true) (hi : (P.info? ty).map (·.size) = some cs.size)
    (h : K (a.put o.dst (.agg cs)) w) : if Region.wanted o (yielded ops a.tmps) = true then Oper.wp P o a w K Q else E := by
  have hw : Region.wanted o (yielded ops a.tmps) = true := by simp [Region.wanted, hgd]
  rw [if_pos hw]
  exact wp_load_row ty x ho g hx t cs fr d hg hu hd hi h
theorem keep3 {w wc : World} {sb cb xb : Nat} {sv opv : Int} {cs : List Int} (h1 : w.cell? ⟨sb, 0, none⟩ = some (.int .i64 sv)) (h2 : w.heap[cb]? = some (.cells (ca cs) 23 (0, 0))) (h3 : w.cell? ⟨xb, 0, none⟩ = some (.int .i64 opv)) (hb : BK w wc) :
    wc.cell? ⟨sb, 0, none⟩ = some (.int .i64 sv) ∧ wc.rangeAt cb 0 (cs.map (Value.int .i64)) ∧ wc.cell? ⟨xb, 0, none⟩ = some (.int .i64 opv) := by
  have hb' : Below w.heap.size w wc := hb
  exact ⟨(hb'.cell (p := ⟨sb, 0, none⟩) (World.block_lt_of_cell? w _ h1)).trans h1, range_ca ((hb'.block cb (Array.getElem?_eq_some_iff.1 h2).1).trans h2), (hb'.cell (p := ⟨xb, 0, none⟩) (World.block_lt_of_cell? w _ h3)).trans h3⟩
/-- a number is given -/
theorem DG.put {w w4 w5 : World} {nb qb sb cb mb : Nat} {cs : List Int} {S S' : List T} {D' : DataW Unit} (h : DG w nb qb sb cb mb cs S) (hg : w.grownBy w4 (some mb)) (hm : w4.ownsMap Tryd.prog 53 (plainElem Tryd.prog 3) mb S'.length D') (hd : MD D' S') (hb : BK w4 w5) {sv : Int} (hs : sumC cs S' = sv) :
    DG (w5.setCell ⟨sb, 0, none⟩ (.int .i64 sv)) nb qb sb cb mb cs S' ∧ FD w (w5.setCell ⟨sb, 0, none⟩ (.int .i64 sv)) sb mb := by
  obtain ⟨n1, n2, n3, n4⟩ := h.ne
  have hb' : Below w4.heap.size w4 w5 := hb
  have old : ∀ b, b < w.heap.size → b ≠ sb → b ≠ mb → (w5.setCell ⟨sb, 0, none⟩ (.int .i64 sv)).heap[b]? = w.heap[b]? := fun b hl h1 h2 => by
    rw [Below.heap_setCell w5 ⟨sb, 0, none⟩ _ b h1, hb'.block b (Nat.lt_of_lt_of_le hl hg.size), hg.block b hl (by simpa using h2)]
  have hs5 : w5.cell? ⟨sb, 0, none⟩ = some (.int .i64 (sumC cs S)) := (hb'.cell (p := ⟨sb, 0, none⟩) (Nat.lt_of_lt_of_le h.lt.1 hg.size)).trans (hg.cell h.s (by simpa using n1))
  have hf5 : w5.frozen? ⟨sb, 0, none⟩ = false := (hb'.frozen (p := ⟨sb, 0, none⟩) (Nat.lt_of_lt_of_le h.lt.1 hg.size)).trans ((hg.frozen_far ⟨sb, 0, none⟩ h.lt.1 (by simpa using n1)).trans h.fs)
  have hmb : (w5.setCell ⟨sb, 0, none⟩ (.int .i64 sv)).heap[mb]? = w4.heap[mb]? := by
    rw [Below.heap_setCell w5 ⟨sb, 0, none⟩ _ mb (Ne.symm n1), hb'.block mb hm.lt]
  refine ⟨⟨(World.cell?_of_block (a := ⟨nb, 0, none⟩) (old nb h.lt.2.2.1 h.n1 n2)).trans h.n, (World.cell?_of_block (a := ⟨qb, 0, none⟩) (old qb h.lt.2.2.2.1 h.n2 n3)).trans h.q, ?_, ?_, (old cb h.lt.2.2.2.2 h.n3 n4).trans h.c, ⟨D', ownm_at hm hmb, hd⟩, h.n1, h.n2, h.n3⟩, ?_, old, ?_⟩
  · rw [hs]; go_simp
  · go_simp
  · have := hg.size; have := bk_size hb; simp; omega
  · intro w0 h0 hl1 hl2
    have h0' : Below w0.heap.size w0 w := h0
    exact bk_set (((h0'.grown hg h0'.size (fun r hr => by cases hr; exact hl2)).trans (hb'.mono (by have := h0'.size; have := hg.size; omega)))) _ _ hl1
theorem in_getD {zs : List Int} (h : ∀ z ∈ zs, In64 z) (j : Nat) : In64 (zs.getD j 0) := by
  by_cases hj : j < zs.length
  · have : zs.getD j 0 = zs[j] := by simp [List.getD_eq_getElem?_getD, hj]
    rw [this]; exact h _ (List.getElem_mem hj)
  · have : zs.getD j 0 = 0 := by simp [List.getD_eq_getElem?_getD, hj]
    rw [this]; exact ⟨by omega, by omega⟩
theorem fdx {w0 w2 w9 : World} {sb mb : Nat} (f : FD w0 w2 sb mb) (x : BKX w0.heap.size w2 w9) : FD w0 w9 sb mb :=
  ⟨Nat.le_trans f.size x.size, fun b hb h1 h2 => (x.blk b (Nat.lt_of_lt_of_le hb f.size) hb).trans (f.blk b hb h1 h2), fun wz hz h1 h2 => x.bel wz (f.bel wz hz h1 h2) (bk_size hz)⟩
set_option maxRecDepth 100000 in
set_option maxHeartbeats 2000000 in
theorem dag26 (cs : List Int) (hcs : cs.length = 32) (t : T) : PD cs t := by
  induction t using T.ind with
  | h op' wd' vl' nm' ts' ih =>
    intro op wd vl nm ts ht wS w p c nb qb sb cb mb S hr hw htb hS hdg hcl hsz hsb hmb
    obtain ⟨rfl, rfl, rfl, rfl, rfl⟩ := T.mk.inj ht
    clear ht
    obtain ⟨i3, hi3, hz3, hs3, hb3⟩ := info_parts info3
    have hlen := hr.len
    unfold maxLen at hlen
    have hsz1 : S.length + (1 + sizeL ts') ≤ 1000 := hsz
    have hls := len_sizeL ts'
    have hx := b5_new w (.int .i64 op') (.int .i64 wd') (.int .u64 vl') (.string nm') (.slice p ts'.length c) 34
    have hlt := box_lt w #[.int .i64 op', .int .i64 wd', .int .u64 vl', .string nm', .slice p ts'.length c] 34
    have hk0 := bk_alloc (BK.refl w) (.cells #[.int .i64 op', .int .i64 wd', .int .u64 vl', .string nm', .slice p ts'.length c] 34)
    have hd0 := hdg.keep hk0
    have hdl := hdg.lt
    have HW := Lib.hid hw
    have HTB := Lib.hid htb
    have HR := Lib.hid (fun wc (hb : BK wS wc) => hr.keep hb)
    clear hr hdg hw htb hsz
    go_enter Tryd.func26, Tryd.ntmps26
    go_wp2_with fail
    generalize w.alloc (.cells #[.int .i64 op', .int .i64 wd', .int .u64 vl', .string nm', .slice p ts'.length c] 34) = w0 at hx hlt hk0 hd0 ⊢
    have HX := Lib.hid hx
    have HK0 := Lib.hid hk0
    have HS := Lib.hid (bk_tr hS hk0)
    have HCL := Lib.hid hcl
    have D0 := Lib.hid hd0
    have IH := Lib.hid ih
    obtain ⟨-, -, -, -, x4⟩ := hx
    clear hk0 hd0 ih hS hcl x4
    have hbase : w.heap.size < w0.heap.size := hlt
    clear hlt
    go_loopw [7, 16] (fun v x wr => ∃ k : Nat, k ≤ ts'.length ∧ x = .int .i64 k ∧ wr.ownsRow w0.heap.size 3 1 v k (ints (opn (subsL S (ts'.take k)) (ts'.take k))) ∧ DG wr nb qb sb cb mb cs (subsL S (ts'.take k)) ∧ B5 wr w.heap.size (.int .i64 op') (.int .i64 wd') (.int .u64 vl') (.string nm') (.slice p ts'.length c) ∧ FD w0 wr sb mb) (fun _ x _ => ts'.length - (intOf x).toNat)
    case atStart => exact ⟨0, Nat.zero_le _, rfl, by simp [opn, ints, World.ownsRow_nil], by simpa [subsL_nil] using D0.out, HX.out, FD.refl _ _ _⟩
    case round =>
      obtain ⟨k, hk, rfl, hown, hdg, hbx, hfd⟩ := hrel
      have HO := Lib.hid hown
      have HD := Lib.hid hdg
      have HB := Lib.hid hbx
      have HF := Lib.hid hfd
      by_cases hlt : k < ts'.length
      · obtain ⟨b, o, op2, wd2, vl2, nm2, us, q, d, rfl, htk, hc5, hw5, hr5⟩ := (HR.out wS (BK.refl _)).get hlt
        have hkS := Lib.hid (hfd.bel wS HS.out hsb hmb)
        obtain ⟨c0, c1, c2, c3, c4⟩ := hc5.keep hkS.out
        obtain ⟨-, -, -, -, x4⟩ := hbx
        have y1 := Lib.cell?_alloc_some (.cells #[.int .i64 op2, .int .i64 wd2, .int .u64 vl2, .string nm2, .slice q us.length d] 34) hdg.n
        obtain ⟨l0, hl0, hl0'⟩ := subsL_ext (ts'.take k) S
        have hz1 := sizeL_get ts' k hlt
        have hmem : ts'[k] ∈ ts' := List.getElem_mem hlt
        have hlenS : (subsL S (ts'.take k)).length + size ts'[k] ≤ 1000 := by rw [hl0, List.length_append]; omega
        have hsn := Lib.hid (subsL_snoc S ts' k hlt)
        have hop := Lib.hid (opn_snoc S ts' k hlt)
        have HC := Lib.hid (fun wc (hb : BK wr wc) => IH.out _ hmem op2 wd2 vl2 nm2 us htk wS wc q d nb qb sb cb mb (subsL S (ts'.take k)) hr5 hw5 HTB.out (bk_tr hkS.out hb) (HD.out.keep hb) (closedL_subs _ _ HCL.out) hlenS hsb hmb)
        rw [← hsn.out] at HC
        clear hown hdg hfd hc5 hw5 hr5 htk hmem hl0 hl0' hz1 hlenS
        generalize hpz : pos (subsL S (ts'.take (k + 1))) ts'[k] = z at HC hop
        clear hpz
        have k2 := Lib.hid (bk_alloc (BK.refl wr) (.cells #[.int .i64 op2, .int .i64 wd2, .int .u64 vl2, .string nm2, .slice q us.length d] 34))
        go_wp2_with fail
        refine (HC.out _ k2.out).mono ?_
        rintro e w2 ⟨rfl, hd2, hf2⟩
        clear c0 c1 c2 c3 c4 x4 y1
        have F2 := Lib.hid (FD.trans (FD.ofBK k2.out) hf2)
        have D2 := Lib.hid hd2
        have hlw := HD.out.lt
        have hwr := HF.out.size
        have row2 := own_at (w' := w2) HO.out (fun j hj => F2.out.blk j (HO.out.lt j hj).2 (by have := (HO.out.lt j hj).1; omega) (by have := (HO.out.lt j hj).1; omega))
        have R2 := Lib.hid row2
        have B2 := Lib.hid (HB.out.at (F2.out.blk w.heap.size (by omega) (by omega) (by omega)))
        have hw2 := F2.out.size
        clear row2 hd2 hf2
        have hk1000 : k ≤ 1000 := by omega
        go_wp2_with (at_builtin; go_must (refine wpList_append_lies _ rfl _ _ 51 rfl w0.heap.size 3 i3 (.int .i64 0) 1 8 Tryd.underlying51 hi3 hz3 hs3 hb3 rfl (by decide) _ k _ rfl (R2.out.alloc _) ⟨w2.heap.size, 0, none⟩ 1 1 [.int .i64 z] rfl rfl (World.news_of_block (cs := #[.int .i64 z]) (t := 3) (fr := (0, 0)) (heap_alloc_new w2 _)) (by simp [Value.oneCell']) (by decide) (by unfold maxLen; omega) (by omega) (by simp; omega) (w2.heap.size + 1) (by simp) ?_))
        intro g9 c9 w9 hown9 hgrow hat hlt9
        have hr9 : w9.ownsRow w0.heap.size 3 1 (.slice (some ⟨g9, 0, none⟩) (k + 1) c9) (k + 1) (ints (opn (subsL S (ts'.take (k + 1))) (ts'.take (k + 1)))) := by rw [hop.out, ints_snoc]; exact hown9
        have hb9 : BKX w0.heap.size w2 w9 := ⟨by have := hgrow.size; simp at this; omega, fun j hj hj0 => (hgrow.block j (by simp; omega) (fun e => by have := (R2.out.lt j e.symm).1; omega)).trans (heap_alloc_old w2 _ hj), fun wz hz hzl => (show Below wz.heap.size wz w2 from hz).alloc (bk_size hz) _ |>.grown hgrow (by have := bk_size hz; simp; omega) (fun r hr => by have := (R2.out.lt r hr).1; omega)⟩
        have R9 := Lib.hid hr9
        have X9 := Lib.hid hb9
        clear hown9 hgrow hat hlt9 hr9 hb9
        go_wp2_with fail
        go_roundw
        case rel =>
          have hl2 := D2.out.lt
          refine ⟨k + 1, by omega, by go_num, R9.out, X9.out.dg D2.out (by omega) (by omega), B2.out.at (X9.out.blk _ (by omega) (by omega)), fdx (HF.out.trans F2.out) X9.out⟩
        case measure => simp [intOf]; omega
      · obtain rfl : k = ts'.length := by omega
        rw [List.take_length] at hown hdg
        clear HO HD
        have hkS := hfd.bel wS HS.out hsb hmb
        obtain ⟨p1, c1, rfl⟩ := own_shape hown
        have hol : (opn (subsL S ts') ts').length = ts'.length := by simp [opn]
        obtain ⟨l0, hl0, hl0'⟩ := subsL_ext ts' S
        have hSl : (subsL S ts').length ≤ 1000 := by rw [hl0, List.length_append]; omega
        have hin : ∀ u ∈ ts', u ∈ subsL S ts' := subsL_all ts' S
        have hra : Ra wr p1 (opn (subsL S ts') ts') := Ra.own (B := w0.heap.size) (c := c1) (by rw [hol]; exact hown)
        have HC := shape27 op' wd' vl' nm' p ts'.length c p1 c1 (opn (subsL S ts') ts') wr (HTB.out.keep hkS) hra (by rw [hol]; omega) (fun j => in_getD (in_opn _ ts' hSl hin) j)
        rw [hol] at HC
        have hok := okK (S := subsL S ts') HW.out hSl hin (by omega)
        have hcl := closedL_subs ts' S HCL.out
        have hsp := subsT_mk S op' wd' vl' nm' ts'
        have hok0 := hok
        unfold OkK at hok0
        have hok : keyOf Tryd.prog 53 (shapeV op' wd' vl' nm' ⟨(txt (opn (subsL S ts') ts')).toArray⟩) = some (kl (shapeV op' wd' vl' nm' ⟨(txt (opn (subsL S ts') ts')).toArray⟩)) := hok0
        have hsz2 : (subsL S ts' ++ [T.mk op' wd' vl' nm' ts']).length ≤ 1000 := by rw [hl0]; simp only [List.length_append, List.length_cons, List.length_nil]; omega
        clear hl0 hl0' hra hol
        have hlk : kl (shapeV op' wd' vl' nm' ⟨(txt (opn (subsL S ts') ts')).toArray⟩) = kl (shp (subsL S ts') (.mk op' wd' vl' nm' ts')) := rfl
        generalize kl (shapeV op' wd' vl' nm' ⟨(txt (opn (subsL S ts') ts')).toArray⟩) = lk at hok hlk
        rw [← hlk] at hok0
        generalize (⟨(txt (opn (subsL S ts') ts')).toArray⟩ : ByteArray) = str at HC hok
        unfold shapeV at HC hok
        have HHC := Lib.hid HC
        have HOK := Lib.hid hok
        have HLK := Lib.hid hlk
        have HSH := Lib.hid hok0
        have HSP := Lib.hid hsp
        have HIN := Lib.hid hin
        have HCL2 := Lib.hid hcl
        have HKS := Lib.hid hkS
        have HD := Lib.hid hdg
        clear HC hok hok0 hlk hsp hin hcl hkS hown hfd hdg
        have HXW := Lib.hid hbx
        obtain ⟨x0, x1, x2, x3, x4⟩ := hbx
        go_wp2_with fail
        refine HHC.out.mono ?_
        rintro e w2 ⟨rfl, hb2⟩
        clear x0 x1 x2 x3 x4
        have K2 := Lib.hid hb2
        have k3 := bk_alloc hb2 (.cells #[.int .i64 op', .int .i64 wd', .int .u64 vl', .string nm', .string str] 53)
        have d3 := HD.out.keep k3
        obtain ⟨D, hmap, hmd⟩ := d3.m
        have q3 := d3.q
        have K3 := Lib.hid k3
        have D3 := Lib.hid d3
        have MD3 := Lib.hid hmd
        have HM := Lib.hid hmap
        clear hb2 k3 d3 hmap hmd
        by_cases hmem : T.mk op' wd' vl' nm' ts' ∈ subsL S ts'
        · have hh : Maps.has D lk = true := by rw [HLK.out]; exact (MD3.out.seen HCL2.out (t := T.mk op' wd' vl' nm' ts') HIN.out (by unfold OkK; rw [← HLK.out]; exact HSH.out)).1 hmem
          have hfin : subsT S (T.mk op' wd' vl' nm' ts') = subsL S ts' := by rw [HSP.out, if_pos hmem]
          have hnum := MD3.out.num _ hmem
          rw [← HLK.out] at hnum
          have HN := Lib.hid hnum
          have HFIN := Lib.hid hfin
          have HH := Lib.hid hh
          clear hnum hfin hh hmem
          go_wp2_with (at_lookup; (refine wpList_lookup_own_ok_int _ rfl _ _ 50 rfl 53 3 .i64 law53 Tryd.underlying50 Tryd.underlying3 (zero3 _) mb (subsL S ts').length D rfl HM.out _ _ rfl HOK.out ?_); intro cc hat hwc; rw [HH.out]; have hcc : cc = (pos (subsL S ts') (T.mk op' wd' vl' nm' ts') : Nat) := (by rw [HN.out] at hat; simpa using hat.symm); clear hat hwc; subst hcc)
          go_ret
          exact ⟨ret_int' (by rw [HFIN.out]), by rw [HFIN.out]; exact D3.out, (FD.ofBK HK0.out).trans (HF.out.trans (FD.ofBK K3.out))⟩
        · have hhf := (MD3.out.seen HCL2.out (t := T.mk op' wd' vl' nm' ts') HIN.out (by unfold OkK; rw [← HLK.out]; exact HSH.out)).2 hmem
          rw [← HLK.out] at hhf
          have hput := MD3.out.put HCL2.out (t := T.mk op' wd' vl' nm' ts') HIN.out (by unfold OkK; rw [← HLK.out]; exact HSH.out) hmem
          rw [← HLK.out] at hput
          have hfin : subsT S (T.mk op' wd' vl' nm' ts') = subsL S ts' ++ [T.mk op' wd' vl' nm' ts'] := by rw [HSP.out, if_neg hmem]
          have hpn := pos_new hmem
          have hsm := sumC_snoc cs (subsL S ts') (T.mk op' wd' vl' nm' ts')
          have hnm := DG.ne D3.out
          have HH := Lib.hid hhf
          have HPUT := Lib.hid hput
          have HFIN := Lib.hid hfin
          have HPN := Lib.hid hpn
          have HSM := Lib.hid hsm
          have HSZ := Lib.hid MD3.out.size
          have HCC := Lib.hid (D3.out.n1)
          clear hhf hput hfin hpn hsm hmem
          obtain ⟨nm1, nm2, nm3, nm4⟩ := hnm
          have hSlt : (subsL S ts').length < maxLen := by unfold maxLen; omega
          have HX3 := Lib.hid (HXW.out.keep K3.out (by have := HF.out.size; omega))
          go_wp2_with (first
            | (at_lookup; refine wpList_lookup_own_ok_int _ rfl _ _ 50 rfl 53 3 .i64 law53 Tryd.underlying50 Tryd.underlying3 (zero3 _) mb (subsL S ts').length D rfl HM.out _ _ rfl HOK.out ?_; intro cc hat hwc; rw [HH.out]; clear hat hwc)
            | (at_len; refine wpList_len_own _ rfl _ 50 rfl 53 3 Tryd.underlying50 _ mb (subsL S ts').length D rfl HM.out ?_; rw [HSZ.out])
            | (at_mapUpdate; refine wpList_mapUpdate_own _ rfl _ _ _ 50 rfl 53 3 law53 Tryd.underlying50 _ mb (subsL S ts').length D rfl HM.out hSlt _ _ _ rfl rfl HOK.out _ [] (plainElem_int Tryd.underlying3 (wf_pos (by omega))) ?_; intro w4 hown4 hgrow4))
          have M4 := Lib.hid (And.intro hown4 hgrow4)
          have s4 := hgrow4.cell (a := ⟨sb, 0, none⟩) D3.out.s (by simpa using nm1)
          have f4 := (hgrow4.frozen_far ⟨sb, 0, none⟩ D3.out.lt.1 (by simpa using nm1)).trans D3.out.fs
          have c4 := (hgrow4.block cb D3.out.lt.2.2.2.2 (by simpa using nm4)).trans D3.out.c
          have x4 := hgrow4.cell (a := ⟨w.heap.size, 0, none⟩) HX3.out.1 (by have := hdl.2.1; simp; omega)
          have KS := Lib.hid (fun wc (hb : BK w4 wc) => keep3 s4 c4 x4 hb)
          have FS := Lib.hid (fun wc (hb : BK w4 wc) => ((show Below w4.heap.size w4 wc from hb).frozen (p := ⟨sb, 0, none⟩) (World.block_lt_of_cell? w4 _ s4)).trans f4)
          have C4 := Lib.hid c4
          clear hown4 hgrow4 s4 f4 c4 x4 q3
          have hu23 := Tryd.underlying23
          have hi23 : (Tryd.prog.info? 23).map (·.size) = some (cs.map (Value.int .i64)).length := by rw [List.length_map, hcs]; kernel_rfl
          have HN9 := Lib.hid (fun wc => node9 cs op' wc hcs)
          generalize hsv : sumC cs (subsL S ts') = sv at KS HSM
          have HSV := Lib.hid hsv
          clear hsv
          have hsm2 := HSM.out
          simp only [T.op] at hsm2
          have HSM2 := Lib.hid hsm2
          clear hsm2
          generalize hnv : nodeC cs op' = nv at HN9 HSM2
          have HNV := Lib.hid hnv
          clear hnv
          obtain ⟨s4, -, x4⟩ := KS.out _ (BK.refl w4)
          have ncs : cb ≠ sb := D3.out.n3
          have nxs : w.heap.size ≠ sb := by omega
          have c4 := C4.out
          have f4 := FS.out _ (BK.refl w4)
          unfold ca at HN9
          clear c4
          have HS4 := KS.out _ (bk_drew (BK.refl w4))
          refine wp_region_held_drew (S := fun w' => w'.rangeAt cb 0 (cs.map (Value.int .i64)) ∧ w'.cell? ⟨w.heap.size, 0, none⟩ = some (.int .i64 op')) (by kernel_rfl) HS4.2 (fun hHeld => ?_)
          refine' wpAnyH_take (i := 1) (v := _) rfl (by kernel_rfl) (by kernel_rfl) (by kernel_rfl) (fun _ _ _ h => h) (yieldsIf_load_mid (by rfl) _ _ rfl _ _ rfl _ _ (fun w hSw => hSw.1) hu23 rfl hi23) hHeld ?_
          try simp only [Act.put, List.setIfInBounds_toArray, List.set_cons_zero, List.set_cons_succ]
          refine wpAnyH_take (i := 2) (v := .pointer (some ⟨w.heap.size, 0, none⟩)) rfl (by kernel_rfl) (by kernel_rfl) (by kernel_rfl) (fun _ _ _ h => h) (Or.inl ⟨by rfl, fun w hSw => by (obtain ⟨hS1, hS2⟩ := hSw; go_simp)⟩) hHeld ?_
          try simp only [Act.put, List.setIfInBounds_toArray, List.set_cons_zero, List.set_cons_succ]
          refine wpAnyH_take (i := 3) (v := .int .i64 op') rfl (by kernel_rfl) (by kernel_rfl) (by kernel_rfl) (fun _ _ _ h => h) (Or.inl ⟨by rfl, fun w hSw => by (obtain ⟨hS1, hS2⟩ := hSw; go_simp)⟩) hHeld ?_
          try simp only [Act.put, List.setIfInBounds_toArray, List.set_cons_zero, List.set_cons_succ]
          refine wpAnyH_ready (rs := [0, 4]) (by kernel_rfl) (by simp) ?_
          have hfinal : True := trivial
          refine AllReadyH.cons (o := _) rfl (fun K hK => ?_) ?_
          · go_simp
            refine hK.out _ _ (KS.out _ (by first | exact bk_drew (BK.refl w4) | exact hk5)).2 (fun hHeld => ?_)
            clear hK K
            try simp only [Act.put, List.setIfInBounds_toArray, List.set_cons_zero, List.set_cons_succ]
            refine wpAnyH_ready (rs := [4]) (by kernel_rfl) (by simp) ?_
            refine AllReadyH.cons (o := _) rfl (fun K hK => ?_) AllReadyH.nil
            go_simp
            go_at_call 9; refine (HN9.out _).mono ?_; rintro e w5 ⟨rfl, hb5⟩; have hk5 := of_drew hb5; have f5 := FS.out _ hk5; have s5 := (KS.out _ hk5).1
            refine hK.out _ _ (KS.out _ (by first | exact bk_drew (BK.refl w4) | exact hk5)).2 (fun hHeld => ?_)
            clear hK K
            try simp only [Act.put, List.setIfInBounds_toArray, List.set_cons_zero, List.set_cons_succ]
            refine wpAnyH_ready (rs := [5]) (by kernel_rfl) (by simp) ?_
            refine AllReadyH.cons (o := _) rfl (fun K hK => ?_) AllReadyH.nil
            go_simp
            go_at_call 11; refine (add11 sv nv _).mono ?_; rintro e w' ⟨rfl, rfl⟩
            refine hK.out _ _ (KS.out _ (by first | exact bk_drew (BK.refl w4) | exact hk5)).2 (fun hHeld => ?_)
            clear hK K
            try simp only [Act.put, List.setIfInBounds_toArray, List.set_cons_zero, List.set_cons_succ]
            refine wpAnyH_ready (rs := [6]) (by kernel_rfl) (by simp) ?_
            refine AllReadyH.cons (o := _) rfl (fun K hK => ?_) AllReadyH.nil
            go_simp
            refine hK.out _ _ (keep2 (sb := sb) (KS.out _ hk5).2 ncs nxs _) (fun hHeld => ?_)
            clear hK K
            try simp only [Act.put, List.setIfInBounds_toArray, List.set_cons_zero, List.set_cons_succ]
            refine wpAnyH_done (by kernel_rfl) ?_ _
            go_wp2_with fail
            go_ret
            have hput := D3.out.put M4.out.2 (S' := subsL S ts' ++ [T.mk op' wd' vl' nm' ts']) (by rw [List.length_append]; exact M4.out.1) HPUT.out hk5 HSM2.out
            exact ⟨ret_int' (by rw [HFIN.out, HPN.out]), by rw [HFIN.out]; exact hput.1, (FD.ofBK HK0.out).trans (HF.out.trans ((FD.ofBK K3.out).trans hput.2))⟩
          · refine AllReadyH.cons (o := _) rfl (fun K hK => ?_) AllReadyH.nil
            go_simp
            go_at_call 9; refine (HN9.out _).mono ?_; rintro e w5 ⟨rfl, hb5⟩; have hk5 := of_drew hb5; have f5 := FS.out _ hk5; have s5 := (KS.out _ hk5).1
            refine hK.out _ _ (KS.out _ (by first | exact bk_drew (BK.refl w4) | exact hk5)).2 (fun hHeld => ?_)
            clear hK K
            try simp only [Act.put, List.setIfInBounds_toArray, List.set_cons_zero, List.set_cons_succ]
            refine wpAnyH_ready (rs := [0]) (by kernel_rfl) (by simp) ?_
            refine AllReadyH.cons (o := _) rfl (fun K hK => ?_) AllReadyH.nil
            go_simp
            refine hK.out _ _ (KS.out _ (by first | exact bk_drew (BK.refl w4) | exact hk5)).2 (fun hHeld => ?_)
            clear hK K
            try simp only [Act.put, List.setIfInBounds_toArray, List.set_cons_zero, List.set_cons_succ]
            refine wpAnyH_ready (rs := [5]) (by kernel_rfl) (by simp) ?_
            refine AllReadyH.cons (o := _) rfl (fun K hK => ?_) AllReadyH.nil
            go_simp
            go_at_call 11; refine (add11 sv nv _).mono ?_; rintro e w' ⟨rfl, rfl⟩
            refine hK.out _ _ (KS.out _ (by first | exact bk_drew (BK.refl w4) | exact hk5)).2 (fun hHeld => ?_)
            clear hK K
            try simp only [Act.put, List.setIfInBounds_toArray, List.set_cons_zero, List.set_cons_succ]
            refine wpAnyH_ready (rs := [6]) (by kernel_rfl) (by simp) ?_
            refine AllReadyH.cons (o := _) rfl (fun K hK => ?_) AllReadyH.nil
            go_simp
            refine hK.out _ _ (keep2 (sb := sb) (KS.out _ hk5).2 ncs nxs _) (fun hHeld => ?_)
            clear hK K
            try simp only [Act.put, List.setIfInBounds_toArray, List.set_cons_zero, List.set_cons_succ]
            refine wpAnyH_done (by kernel_rfl) ?_ _
            go_wp2_with fail
            go_ret
            have hput := D3.out.put M4.out.2 (S' := subsL S ts' ++ [T.mk op' wd' vl' nm' ts']) (by rw [List.length_append]; exact M4.out.1) HPUT.out hk5 HSM2.out
            exact ⟨ret_int' (by rw [HFIN.out, HPN.out]), by rw [HFIN.out]; exact hput.1, (FD.ofBK HK0.out).trans (HF.out.trans ((FD.ofBK K3.out).trans hput.2))⟩
end Go.Proofs.YtmejiiebeknbjaaDoor
