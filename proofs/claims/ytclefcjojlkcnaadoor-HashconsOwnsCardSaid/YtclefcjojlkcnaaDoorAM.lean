/- The table, read with its nodes: New, Len, Get, Put, Del. -/
import Derived.Test.YtclefcjojlkcnaaDoorF
import Derived.Test.YtclefcjojlkcnaaDoorAJ
namespace Go.Proofs.YtclefcjojlkcnaaDoor.V
open Go.RowKit Go.Maps Go.ChangeMaps Go.ChangeShapes Go.WideShapes
open Go.Proofs.YtclefcjojlkcnaaDoor.G (RowA Step mem dom)
set_option linter.unusedVariables false
set_option linter.unusedSimpArgs false
def IsE (v : Value) : Prop := ∃ id, IsEnt v id
open Classical in
noncomputable def entN (v : Value) : Option (DataW Value × List MemPlace) := if IsE v then some (.held v, []) else none
theorem entN_mk {v : Value} (h : IsE v) : entN v = some (.held v, []) := by unfold entN; rw [if_pos h]
theorem entN_inv {v : Value} {z : DataW Value × List MemPlace} (h : entN v = some z) : IsE v ∧ z = (.held v, []) := by
  unfold entN at h
  split at h
  · rename_i hx; exact ⟨hx, by simpa using h.symm⟩
  · cases h
theorem zent_N : entN zent = some (.held zent, []) := entN_mk ⟨0, 0, 0, 0, ⟨#[]⟩, none, 0, 0, rfl⟩
/-- a table that New made -/
structure TB (B : Nat) (w : World) (tb mb c : Nat) (D : DataW Value) : Prop where
  c0 : w.cell? ⟨tb, 0, none⟩ = some (.pointer (some ⟨tb, 0, none⟩))
  c1 : w.cell? ⟨tb, 1, none⟩ = some (.map (some mb))
  map : w.ownsMap Tryd.prog 9 entN mb c D
  lt : tb < w.heap.size
  lo : B ≤ mb
  ne : mb ≠ tb
theorem own_map_at {w w' : World} {b n : Nat} {D : DataW Value} (h : w.ownsMap Tryd.prog 9 entN b n D) (hb : w'.heap[b]? = w.heap[b]?) : w'.ownsMap Tryd.prog 9 entN b n D := by
  obtain ⟨es, cl, h1, h2⟩ := h
  exact ⟨es, cl, hb.trans h1, h2⟩
theorem TB.keep {B : Nat} {w w' : World} {tb mb c : Nat} {D : DataW Value} (h : TB B w tb mb c D) (hb : BK w w') : TB B w' tb mb c D := by
  have hb : Below w.heap.size w w' := hb
  exact ⟨(hb.cell (p := ⟨tb, 0, none⟩) h.lt).trans h.c0, (hb.cell (p := ⟨tb, 1, none⟩) h.lt).trans h.c1, own_map_at h.map (hb.block mb h.map.lt), Nat.lt_of_lt_of_le h.lt hb.size, h.lo, h.ne⟩
theorem TB.turned {B : Nat} {w w' : World} {tb mb c c' : Nat} {D D' : DataW Value} (h : TB B w tb mb c D) (ht : w.mapTurned w' mb) (hm : w'.ownsMap Tryd.prog 9 entN mb c' D') : TB B w' tb mb c' D' := by
  have hg := ht.grown
  exact ⟨hg.cell h.c0 (by simpa using h.ne.symm), hg.cell h.c1 (by simpa using h.ne.symm), hm, Nat.lt_of_lt_of_le h.lt hg.size, h.lo, h.ne⟩
set_option maxHeartbeats 1000000 in
theorem new_any (B : Nat) (w : World) (hB : B ≤ w.heap.size) : Calls Tryd.prog 24 #[] w fun e w' => e = .returned (.pointer (some ⟨w.heap.size + 1, 0, none⟩)) ∧ TB B w' (w.heap.size + 1) w.heap.size 0 (.map []) ∧ BK w w' := by
  have hmm := @run_makeMap Tryd.prog
  go_enter Tryd.func24, Tryd.ntmps24
  go_wp2_with fail
  go_ret
  refine ⟨rfl, ?_, ?_⟩
  · have hm : ((w.alloc (.map #[] 0))).ownsMap Tryd.prog 9 entN w.heap.size 0 (.map []) := World.ownsMap_made w _ _ _
    have hr := (MapKept.heap_alloc (w.alloc (.map #[] 0)) (.cells #[.pointer (some ⟨w.heap.size + 1, 0, none⟩), .map (some w.heap.size)] 58)).1
    have hr' : ((w.alloc (.map #[] 0)).alloc (.cells #[.pointer (some ⟨w.heap.size + 1, 0, none⟩), .map (some w.heap.size)] 58)).heap[w.heap.size + 1]? = some (.cells #[.pointer (some ⟨w.heap.size + 1, 0, none⟩), .map (some w.heap.size)] 58) := by simpa using hr
    exact ⟨by rw [cell_of_row _ _ _ _ _ _ hr']; rfl, by rw [cell_of_row _ _ _ _ _ _ hr']; rfl, hm.alloc _, by simp, hB, by omega⟩
  · exact bk_alloc (bk_alloc (BK.refl w) _) _
set_option maxHeartbeats 1000000 in
theorem len_any (B tb mb c : Nat) (D : DataW Value) (w : World) (h : TB B w tb mb c D) : Calls Tryd.prog 31 #[.pointer (some ⟨tb, 0, none⟩)] w fun e w' => e = .returned (.int .i64 (Maps.size D : Nat)) ∧ w = w' := by
  have hu := Lib.hid (usable_any tb w h.c0)
  have hl := h.map.len Tryd.underlying56 3
  have c1 := h.c1
  clear h
  go_enter Tryd.func31, Tryd.ntmps31
  go_wp2_with (go_at_call 46; refine hu.out.mono ?_; rintro e w' ⟨rfl, rfl⟩)
  go_ret
  exact ⟨rfl, rfl⟩
/-- what a look-up finds -/
def Look (wc : World) (mb : Nat) (D : DataW Value) (K : List UInt8) : Prop := ∃ (op wd vl : Int) (s : ByteArray) (p : Option Addr) (n c : Nat) (id : Int), (Instr.lookup 56 (.map (some mb)) (.string ⟨K.toArray⟩) true).run Tryd.prog wc = .ok (.tuple #[.agg #[.int .i64 op, .int .i64 wd, .int .u64 vl, .string s, .slice p n c, .int .i64 id], .bool (Maps.has D (.string K))]) wc ∧ D.atKey (.string K) (.held zent) = .held (.agg #[.int .i64 op, .int .i64 wd, .int .u64 vl, .string s, .slice p n c, .int .i64 id])
theorem TB.look {B : Nat} {w : World} {tb mb c : Nat} {D : DataW Value} (h : TB B w tb mb c D) {K : List UInt8} (hK : K.length ≤ 3000000) : Look w mb D K := by
  obtain ⟨v, ps, hlk, hv⟩ := h.map.look_ok keyLaw Tryd.underlying56 (zero71 w) zent_N (key_of hK)
  obtain ⟨⟨id, op, wd, vl, s, p, n, c, rfl⟩, hz⟩ := entN_inv hv
  exact ⟨op, wd, vl, s, p, n, c, id, hlk, by simpa using congrArg Prod.fst hz⟩
set_option maxRecDepth 100000 in
set_option maxHeartbeats 400000 in
theorem get_any (B tb mb cc : Nat) (D : DataW Value) (op wd : Int) (vl : Nat) (name : ByteArray) (p : Option Addr) (c : Nat) (zs : List Int) (w : World) (ht : Tb w) (hn : Nd w op wd vl name p zs) (h : TB B w tb mb cc D) :
    Calls Tryd.prog 29 #[.pointer (some ⟨tb, 0, none⟩), .agg #[.int .i64 op, .int .i64 wd, .int .u64 vl, .string name, .slice p zs.length c]] w fun e w' => ∃ id, e = .returned (.tuple #[.int .i64 id, .bool (Maps.has D (.string (keyL op wd vl name zs)))]) ∧ (∃ o d v s p n c, D.atKey (.string (keyL op wd vl name zs)) (.held zent) = .held (.agg #[.int .i64 o, .int .i64 d, .int .u64 v, .string s, .slice p n c, .int .i64 id])) ∧ BK w w' := by
  have hk0 : BK w (w.alloc (.cells #[.int .i64 op, .int .i64 wd, .int .u64 vl, .string name, .slice p zs.length c] 26)) := bk_alloc (BK.refl w) _
  have hx := b5_new w (.int .i64 op) (.int .i64 wd) (.int .u64 vl) (.string name) (.slice p zs.length c) 26
  have hlt := box_lt w #[.int .i64 op, .int .i64 wd, .int .u64 vl, .string name, .slice p zs.length c] 26
  have hT := h.keep hk0
  have hkey := fun wc (hb : BK (w.alloc (.cells #[.int .i64 op, .int .i64 wd, .int .u64 vl, .string name, .slice p zs.length c] 26)) wc) => key_any op wd vl name p c zs wc (ht.keep (bk_tr hk0 hb)) (hn.keep (bk_tr hk0 hb))
  have hra := hn.r.keep hk0
  have hzl := hn.l
  have hkl := key_len hn
  generalize keyL op wd vl name zs = KL at *
  clear h ht hn
  go_enter Tryd.func29, Tryd.ntmps29
  go_wp2_with fail
  generalize w.alloc (.cells #[.int .i64 op, .int .i64 wd, .int .u64 vl, .string name, .slice p zs.length c] 26) = w0 at hk0 hx hlt hT hkey hra ⊢
  have KC := Lib.hid (fun wc (hb : BK w0 wc) => And.intro (hT.keep hb) (hx.keep hb hlt))
  have LK := Lib.hid (fun wc (hb : BK w0 wc) => (hT.keep hb).look hkl)
  have KY := Lib.hid (fun wc (hb : BK w0 wc) => (hkey wc hb).mono (fun e w' (he : _ ∧ _) => (⟨he.1, he.2, bk_tr hb he.2⟩ : e = .returned (.string ⟨KL.toArray⟩) ∧ BK wc w' ∧ BK w0 w')))
  have RA := Lib.hid hra
  have HK0 := Lib.hid hk0
  have us := usable_any tb w0 hT.c0
  obtain ⟨c1, hx'⟩ := And.intro hT.c1 hx
  have k0 := BK.refl w0
  clear hx hT hkey hra hk0
  refine us.mono ?_
  rintro e w' ⟨rfl, rfl⟩
  clear us
  obtain ⟨x0, x1, x2, x3, x4⟩ := hx'
  have ne1 : w0.heap.size ≠ tb := by have := (KC.out _ k0).1.lt; omega
  have ne2 : w0.heap.size ≠ w.heap.size := by omega
  go_wp2_with fail
  go_region_held3 (fun w' => w'.cell? ⟨tb, 1, none⟩ = some (.map (some mb)) ∧ w'.cell? ⟨w.heap.size, 0, none⟩ = some (.int .i64 op) ∧ w'.cell? ⟨w.heap.size, 1, none⟩ = some (.int .i64 wd) ∧ w'.cell? ⟨w.heap.size, 2, none⟩ = some (.int .u64 vl) ∧ w'.cell? ⟨w.heap.size, 3, none⟩ = some (.string name) ∧ w'.cell? ⟨w.heap.size, 4, none⟩ = some (.slice p zs.length c))
    (first | (go_keep; done) | exact ⟨(KC.out _ (by first | exact bk_drew k0 | exact bk_drew (bk_alloc k0 _) | assumption | exact bk_alloc (by assumption) _)).1.c1, (KC.out _ (by first | exact bk_drew k0 | exact bk_drew (bk_alloc k0 _) | assumption | exact bk_alloc (by assumption) _)).2⟩)
    ((go_at_call 17; refine (KY.out _ (by first | exact bk_drew k0 | exact bk_drew (bk_alloc k0 _) | assumption | exact bk_alloc (by assumption) _)).mono ?_; rintro e w1 ⟨rfl, hb1, hk1⟩; obtain ⟨eo, ed, ev, es, ep, en, ec, id, hlk, hid⟩ := LK.out _ hk1; obtain ⟨eo', ed', ev', es', ep', en', ec', id', hlk', hid'⟩ := LK.out _ (bk_alloc hk1 (.cells #[.int .i64 0, .int .i64 0, .int .u64 0, .string ⟨#[]⟩, .slice none 0 0, .int .i64 0] 71)); have hzc := zc_at hb1 w0.heap.size; have hzf := zf_at hb1 w0.heap.size))
  all_goals have HI := Lib.hid hid
  all_goals have HI' := Lib.hid hid'
  all_goals have H1 := Lib.hid (bk_tr HK0.out hk1)
  all_goals have hz0 := bk_size HK0.out
  all_goals clear hid hid' hlk hlk' c1 x0 x1 x2 x3 x4
  all_goals go_wp2_with fail
  all_goals go_ret2
  · exact ⟨id, rfl, ⟨_, _, _, _, _, _, _, HI.out⟩, bk_alloc H1.out _⟩
  · exact ⟨id', rfl, ⟨_, _, _, _, _, _, _, HI'.out⟩, bk_alloc H1.out _⟩
  · exact ⟨id, rfl, ⟨_, _, _, _, _, _, _, HI.out⟩, bk_set (bk_set (bk_set (bk_set (bk_set (bk_set H1.out _ _ hz0) _ _ hz0) _ _ hz0) _ _ hz0) _ _ hz0) _ _ hz0⟩
theorem new_row {w wc w' : World} {p : Option Addr} {c : Nat} {zs : List Int} (hb : BK w wc) (ho : w'.ownsRow wc.heap.size 3 1 (.slice p zs.length c) zs.length (ints zs)) : RowA (mem w.heap.size w') w' p zs := fun h0 => by
  obtain ⟨g, o, e1, e2, e3⟩ := Ra.own ho h0
  exact ⟨g, o, e1, ⟨Nat.le_trans (bk_size hb) (ho.lt g (by rw [e1]; rfl)).1, e2⟩, e3⟩
theorem row_turned {w0 w w' : World} {mb : Nat} {p : Option Addr} {zs : List Int} (h : RowA (mem w0.heap.size w) w p zs) (ht : w.mapTurned w' mb) (hm : mb < w0.heap.size) : RowA (mem w0.heap.size w') w' p zs :=
  h.keep (fun k hk => ⟨ht.grown.block k hk.2 (fun e => by have := hk.1; have : k = mb := by simpa using e
                                                          omega), hk.1, Nat.lt_of_lt_of_le hk.2 ht.grown.size⟩)
theorem Fr.step {w w' : World} {mb : Nat} (f : Fr w w' mb) : Step w w' (fun k => k = mb) (fun k => k = mb) := by
  obtain ⟨wx, h1, h2⟩ := f
  have g := h2.grown
  have b : Below w.heap.size w wx := h1
  exact ⟨g.os.trans b.os, g.tape.trans b.tape, g.output.trans b.output, Nat.le_trans b.size g.size, fun k hk hn => (g.block k (Nat.lt_of_lt_of_le hk b.size) (fun e => hn (by simpa using e))).trans (b.block k hk), fun k h => .inl h⟩
set_option maxRecDepth 100000 in
set_option maxHeartbeats 400000 in
theorem put_old (B tb mb cc : Nat) (D : DataW Value) (op wd : Int) (vl : Nat) (name : ByteArray) (p : Option Addr) (c : Nat) (zs : List Int) (id : Int) (w : World) (ht : Tb w) (hn : Nd w op wd vl name p zs) (h : TB B w tb mb cc D) (hh : Maps.has D (.string (keyL op wd vl name zs)) = true) :
    Calls Tryd.prog 25 #[.pointer (some ⟨tb, 0, none⟩), .agg #[.int .i64 op, .int .i64 wd, .int .u64 vl, .string name, .slice p zs.length c], .int .i64 id] w fun e w' => e = .returned (.bool false) ∧ BK w w' := by
  have hk0 : BK w (w.alloc (.cells #[.int .i64 op, .int .i64 wd, .int .u64 vl, .string name, .slice p zs.length c] 26)) := bk_alloc (BK.refl w) _
  have hx := b5_new w (.int .i64 op) (.int .i64 wd) (.int .u64 vl) (.string name) (.slice p zs.length c) 26
  have hlt := box_lt w #[.int .i64 op, .int .i64 wd, .int .u64 vl, .string name, .slice p zs.length c] 26
  have hT := h.keep hk0
  have hkey := fun wc (hb : BK (w.alloc (.cells #[.int .i64 op, .int .i64 wd, .int .u64 vl, .string name, .slice p zs.length c] 26)) wc) => key_any op wd vl name p c zs wc (ht.keep (bk_tr hk0 hb)) (hn.keep (bk_tr hk0 hb))
  have hra := hn.r.keep hk0
  have hzl := hn.l
  have hkl := key_len hn
  generalize keyL op wd vl name zs = KL at *
  clear h ht hn
  go_enter Tryd.func25, Tryd.ntmps25
  go_wp2_with fail
  generalize w.alloc (.cells #[.int .i64 op, .int .i64 wd, .int .u64 vl, .string name, .slice p zs.length c] 26) = w0 at hk0 hx hlt hT hkey hra ⊢
  have KC := Lib.hid (fun wc (hb : BK w0 wc) => And.intro (hT.keep hb) (hx.keep hb hlt))
  have LK := Lib.hid (fun wc (hb : BK w0 wc) => (hT.keep hb).look hkl)
  have KY := Lib.hid (fun wc (hb : BK w0 wc) => (hkey wc hb).mono (fun e w' (he : _ ∧ _) => (⟨he.1, he.2, bk_tr hb he.2⟩ : e = .returned (.string ⟨KL.toArray⟩) ∧ BK wc w' ∧ BK w0 w')))
  have RA := Lib.hid hra
  have HK0 := Lib.hid hk0
  have us := usable_any tb w0 hT.c0
  obtain ⟨c1, hx'⟩ := And.intro hT.c1 hx
  have k0 := BK.refl w0
  clear hx hT hkey hra hk0
  refine us.mono ?_
  rintro e w' ⟨rfl, rfl⟩
  clear us
  obtain ⟨x0, x1, x2, x3, x4⟩ := hx'
  go_wp2_with fail
  refine (KY.out _ k0).mono ?_
  rintro e w1 ⟨rfl, _, hk1⟩
  obtain ⟨eo, ed, ev, es, ep, en, ec, id0, hlk, _⟩ := LK.out _ hk1
  rw [hh] at hlk
  have T1 := (KC.out _ hk1).1
  have c1' := T1.c1
  clear c1 x0 x1 x2 x3 x4
  have H1 := Lib.hid (bk_tr HK0.out hk1)
  clear hk1 T1
  go_wp2_with fail
  go_ret
  exact ⟨rfl, bk_alloc H1.out _⟩
set_option maxRecDepth 100000 in
set_option maxHeartbeats 400000 in
theorem put_new (B tb mb cc : Nat) (D : DataW Value) (op wd : Int) (vl : Nat) (name : ByteArray) (p : Option Addr) (c : Nat) (zs : List Int) (id : Int) (w : World) (ht : Tb w) (hn : Nd w op wd vl name p zs) (h : TB B w tb mb cc D) (hh : Maps.has D (.string (keyL op wd vl name zs)) = false) (hB : B ≤ w.heap.size) (hcc : cc < maxLen) :
    Calls Tryd.prog 25 #[.pointer (some ⟨tb, 0, none⟩), .agg #[.int .i64 op, .int .i64 wd, .int .u64 vl, .string name, .slice p zs.length c], .int .i64 id] w fun e w' => e = .returned (.bool true) ∧ (∃ q d, TB B w' tb mb (cc + 1) (D.put (.string (keyL op wd vl name zs)) (.held (.agg #[.int .i64 op, .int .i64 wd, .int .u64 vl, .string name, .slice q zs.length d, .int .i64 id]))) ∧ RowA (mem w.heap.size w') w' q zs) ∧ Fr w w' mb := by
  have hBw := hB
  have hk0 : BK w (w.alloc (.cells #[.int .i64 op, .int .i64 wd, .int .u64 vl, .string name, .slice p zs.length c] 26)) := bk_alloc (BK.refl w) _
  have hx := b5_new w (.int .i64 op) (.int .i64 wd) (.int .u64 vl) (.string name) (.slice p zs.length c) 26
  have hlt := box_lt w #[.int .i64 op, .int .i64 wd, .int .u64 vl, .string name, .slice p zs.length c] 26
  have hT := h.keep hk0
  have hkey := fun wc (hb : BK (w.alloc (.cells #[.int .i64 op, .int .i64 wd, .int .u64 vl, .string name, .slice p zs.length c] 26)) wc) => key_any op wd vl name p c zs wc (ht.keep (bk_tr hk0 hb)) (hn.keep (bk_tr hk0 hb))
  have hra := hn.r.keep hk0
  have HMB := Lib.hid (show mb < w.heap.size from h.map.lt)
  have hzl := hn.l
  have hkl := key_len hn
  generalize keyL op wd vl name zs = KL at *
  clear h ht hn
  go_enter Tryd.func25, Tryd.ntmps25
  go_wp2_with fail
  generalize w.alloc (.cells #[.int .i64 op, .int .i64 wd, .int .u64 vl, .string name, .slice p zs.length c] 26) = w0 at hk0 hx hlt hT hkey hra ⊢
  have KC := Lib.hid (fun wc (hb : BK w0 wc) => And.intro (hT.keep hb) (hx.keep hb hlt))
  have LK := Lib.hid (fun wc (hb : BK w0 wc) => (hT.keep hb).look hkl)
  have KY := Lib.hid (fun wc (hb : BK w0 wc) => (hkey wc hb).mono (fun e w' (he : _ ∧ _) => (⟨he.1, he.2, bk_tr hb he.2⟩ : e = .returned (.string ⟨KL.toArray⟩) ∧ BK wc w' ∧ BK w0 w')))
  have RA := Lib.hid hra
  have HK0 := Lib.hid hk0
  have hk0' := hk0
  have us := usable_any tb w0 hT.c0
  obtain ⟨c1, hx'⟩ := And.intro hT.c1 hx
  have k0 := BK.refl w0
  clear hx hT hkey hra hk0
  refine us.mono ?_
  rintro e w' ⟨rfl, rfl⟩
  clear us
  obtain ⟨x0, x1, x2, x3, x4⟩ := hx'
  go_wp2_with fail
  refine (KY.out _ k0).mono ?_
  rintro e w1 ⟨rfl, _, hk1⟩
  obtain ⟨eo, ed, ev, es, ep, en, ec, id0, hlk, _⟩ := LK.out _ hk1
  rw [hh] at hlk
  have T1 := (KC.out _ hk1).1
  have c1' := T1.c1
  clear c1 x0 x1 x2 x3 x4
  have CP := Lib.hid (fun wc (hb : BK w0 wc) => (copy_any op wd vl name p c zs wc (RA.out.keep hb) hzl).mono (fun e w' (he : ∃ p' c', _ ∧ _ ∧ _) => (by
    obtain ⟨p', c', h1, h2, h3⟩ := he
    exact ⟨p', c', h1, new_row (bk_tr hk0' hb) h2, bk_tr hb h3⟩ : ∃ p' c', e = .returned (.agg #[.int .i64 op, .int .i64 wd, .int .u64 vl, .string name, .slice p' zs.length c']) ∧ RowA (mem w.heap.size w') w' p' zs ∧ BK w0 w')))
  clear hk0'
  have hk2 := bk_alloc hk1 (.cells #[.int .i64 eo, .int .i64 ed, .int .u64 ev, .string es, .slice ep en ec, .int .i64 id0] 71)
  obtain ⟨x0, x1, x2, x3, x4⟩ := (KC.out _ hk1).2
  have hblt := bk_size hk1
  have hwb := Lib.hid (bk_tr HK0.out hk1)
  have nb : w.heap.size < w1.heap.size := by omega
  have nt := T1.lt
  have nm := T1.ne
  have nb2 : w.heap.size ≠ mb := by
    intro hm
    obtain ⟨es', cl', hmb, _⟩ := T1.map
    rw [← hm] at hmb
    have := x0
    unfold World.cell? at this
    simp [hmb] at this
  clear T1
  go_wp2_with fail
  go_region_held3 (fun w' => w'.cell? ⟨tb, 1, none⟩ = some (.map (some mb)) ∧ w'.cell? ⟨w.heap.size, 0, none⟩ = some (.int .i64 op) ∧ w'.cell? ⟨w.heap.size, 1, none⟩ = some (.int .i64 wd) ∧ w'.cell? ⟨w.heap.size, 2, none⟩ = some (.int .u64 vl) ∧ w'.cell? ⟨w.heap.size, 3, none⟩ = some (.string name) ∧ w'.cell? ⟨w.heap.size, 4, none⟩ = some (.slice p zs.length c))
    (first | exact hS9 | exact ⟨(KC.out _ (by first | assumption | exact bk_drew (by assumption) | exact bk_alloc (by assumption) _ | exact bk_drew (bk_alloc (by assumption) _))).1.c1, (KC.out _ (by first | assumption | exact bk_drew (by assumption) | exact bk_alloc (by assumption) _ | exact bk_drew (bk_alloc (by assumption) _))).2⟩ | (go_keep; done))
    ((go_at_call 23; refine (CP.out _ (by first | assumption | exact bk_drew (by assumption) | exact bk_alloc (by assumption) _ | exact bk_drew (bk_alloc (by assumption) _))).mono ?_; rintro e w3 ⟨p3, c3, rfl, hr3, hk3⟩; have T3 := (KC.out _ hk3).1; obtain ⟨w9, hrun9, hm9, ht9⟩ := T3.map.store keyLaw Tryd.underlying56 hcc (key_of hkl) (entN_mk (v := .agg #[.int .i64 op, .int .i64 wd, .int .u64 vl, .string name, .slice p3 zs.length c3, .int .i64 id]) ⟨id, op, wd, vl, name, p3, zs.length, c3, rfl⟩); have hS9 := And.intro (T3.turned ht9 hm9).c1 ((KC.out _ hk3).2.turned ht9 nb2)))
  all_goals have T9 := Lib.hid (T3.turned ht9 hm9)
  all_goals have H9 := Lib.hid (show Fr w w9 mb from ⟨w3, bk_tr HK0.out hk3, ht9⟩)
  all_goals have R9 := Lib.hid (row_turned hr3 ht9 HMB.out)
  all_goals clear T3 ht9 hm9 hS9 hk3 hrun9 hr3
  all_goals go_wp2_with fail
  all_goals go_ret
  all_goals exact ⟨rfl, ⟨_, _, T9.out, R9.out⟩, H9.out⟩
set_option maxRecDepth 100000 in
set_option maxHeartbeats 400000 in
theorem del_any (B tb mb cc : Nat) (D : DataW Value) (op wd : Int) (vl : Nat) (name : ByteArray) (p : Option Addr) (c : Nat) (zs : List Int) (w : World) (ht : Tb w) (hn : Nd w op wd vl name p zs) (h : TB B w tb mb cc D) (hB : B ≤ w.heap.size) :
    Calls Tryd.prog 27 #[.pointer (some ⟨tb, 0, none⟩), .agg #[.int .i64 op, .int .i64 wd, .int .u64 vl, .string name, .slice p zs.length c]] w fun e w' => e = .returned (.bool (Maps.has D (.string (keyL op wd vl name zs)))) ∧ TB B w' tb mb cc (D.del (.string (keyL op wd vl name zs))) ∧ Fr w w' mb := by
  have hBw := hB
  have hk0 : BK w (w.alloc (.cells #[.int .i64 op, .int .i64 wd, .int .u64 vl, .string name, .slice p zs.length c] 26)) := bk_alloc (BK.refl w) _
  have hx := b5_new w (.int .i64 op) (.int .i64 wd) (.int .u64 vl) (.string name) (.slice p zs.length c) 26
  have hlt := box_lt w #[.int .i64 op, .int .i64 wd, .int .u64 vl, .string name, .slice p zs.length c] 26
  have hT := h.keep hk0
  have hkey := fun wc (hb : BK (w.alloc (.cells #[.int .i64 op, .int .i64 wd, .int .u64 vl, .string name, .slice p zs.length c] 26)) wc) => key_any op wd vl name p c zs wc (ht.keep (bk_tr hk0 hb)) (hn.keep (bk_tr hk0 hb))
  have hra := hn.r.keep hk0
  have hzl := hn.l
  have hkl := key_len hn
  generalize keyL op wd vl name zs = KL at *
  clear h ht hn
  go_enter Tryd.func27, Tryd.ntmps27
  go_wp2_with fail
  generalize w.alloc (.cells #[.int .i64 op, .int .i64 wd, .int .u64 vl, .string name, .slice p zs.length c] 26) = w0 at hk0 hx hlt hT hkey hra ⊢
  have KC := Lib.hid (fun wc (hb : BK w0 wc) => And.intro (hT.keep hb) (hx.keep hb hlt))
  have LK := Lib.hid (fun wc (hb : BK w0 wc) => (hT.keep hb).look hkl)
  have KY := Lib.hid (fun wc (hb : BK w0 wc) => (hkey wc hb).mono (fun e w' (he : _ ∧ _) => (⟨he.1, he.2, bk_tr hb he.2⟩ : e = .returned (.string ⟨KL.toArray⟩) ∧ BK wc w' ∧ BK w0 w')))
  have RA := Lib.hid hra
  have HK0 := Lib.hid hk0
  have us := usable_any tb w0 hT.c0
  obtain ⟨c1, hx'⟩ := And.intro hT.c1 hx
  have k0 := BK.refl w0
  clear hx hT hkey hra hk0
  refine us.mono ?_
  rintro e w' ⟨rfl, rfl⟩
  clear us
  obtain ⟨x0, x1, x2, x3, x4⟩ := hx'
  go_wp2_with fail
  refine (KY.out _ k0).mono ?_
  rintro e w1 ⟨rfl, _, hk1⟩
  obtain ⟨eo, ed, ev, es, ep, en, ec, id0, hlk, _⟩ := LK.out _ hk1
  have T1 := (KC.out _ hk1).1
  have c1' := T1.c1
  clear c1 x0 x1 x2 x3 x4
  have hk2 := bk_alloc hk1 (.cells #[.int .i64 eo, .int .i64 ed, .int .u64 ev, .string es, .slice ep en ec, .int .i64 id0] 71)
  have T2 := (KC.out _ hk2).1
  have hM := T2.map
  have c2 := T2.c1
  have H2 := Lib.hid (bk_tr HK0.out hk2)
  have TT := Lib.hid T2
  have hkk := key_of hkl
  clear T1 T2 hk1 hk2
  go_wp2_with (at_delete; refine wpList_delete_own _ rfl _ _ 56 9 rfl 71 keyLaw Tryd.underlying56 _ mb cc D rfl hM _ _ rfl hkk ?_)
  intro w9 hm9 ht9
  have T9 := Lib.hid (TT.out.turned ht9 hm9)
  have H9 := Lib.hid (show Fr w w9 mb from ⟨_, H2.out, ht9⟩)
  clear hM hm9 ht9 hlk c1' c2
  go_wp2_with fail
  go_ret
  exact ⟨rfl, T9.out, H9.out⟩
end Go.Proofs.YtclefcjojlkcnaaDoor.V
