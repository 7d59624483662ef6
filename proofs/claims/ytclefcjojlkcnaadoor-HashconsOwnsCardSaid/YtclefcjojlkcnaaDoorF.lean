/- The table: Put, Del. -/
import Derived.Test.YtclefcjojlkcnaaDoorE
namespace Go.Proofs.YtclefcjojlkcnaaDoor
open Go.RowKit Go.Maps
set_option linter.unusedVariables false
set_option linter.unusedSimpArgs false
/-- new memory, and the map's block turned -/
def Fr (w w' : World) (mb : Nat) : Prop := ∃ wx, BK w wx ∧ wx.mapTurned w' mb
theorem Fr.below {w w' : World} {mb B : Nat} (f : Fr w w' mb) (hB : B ≤ w.heap.size) (hm : B ≤ mb) : Below B w w' := by
  obtain ⟨wx, h1, h2⟩ := f
  exact below_turned ((show Below w.heap.size w wx from h1).mono hB) h2 (Nat.le_trans hB (bk_size h1)) hm
theorem Fr.size {w w' : World} {mb : Nat} (f : Fr w w' mb) : w.heap.size ≤ w'.heap.size := by
  obtain ⟨wx, h1, h2⟩ := f
  exact Nat.le_trans (bk_size h1) h2.grown.size
theorem Fr.cell {w w' : World} {mb c : Nat} {D : DataW Unit} (f : Fr w w' mb) (hm : w.ownsMap Tryd.prog 9 entR mb c D) {b o : Nat} {u : Value} (hc : w.cell? ⟨b, o, none⟩ = some u) : w'.cell? ⟨b, o, none⟩ = some u := by
  have hlt := World.block_lt_of_cell? w _ hc
  have hne : b ≠ mb := by
    intro e
    obtain ⟨es, cl, hmb, _⟩ := hm
    rw [← e] at hmb
    unfold World.cell? at hc
    simp [hmb] at hc
  obtain ⟨wx, h1, h2⟩ := f
  have hx := ((show Below w.heap.size w wx from h1).cell (p := ⟨b, o, none⟩) hlt).trans hc
  exact h2.grown.cell hx (by simpa using hne)
theorem Fr.b5 {w w' : World} {mb c b : Nat} {D : DataW Unit} {x0 x1 x2 x3 x4 : Value} (f : Fr w w' mb) (hm : w.ownsMap Tryd.prog 9 entR mb c D) (h : B5 w b x0 x1 x2 x3 x4) : B5 w' b x0 x1 x2 x3 x4 := by
  obtain ⟨a0, a1, a2, a3, a4⟩ := h
  exact ⟨f.cell hm a0, f.cell hm a1, f.cell hm a2, f.cell hm a3, f.cell hm a4⟩
theorem Fr.nd {w w' : World} {mb c : Nat} {D : DataW Unit} {op wd : Int} {vl : Nat} {name : ByteArray} {p : Option Addr} {zs : List Int} (f : Fr w w' mb) (hm : w.ownsMap Tryd.prog 9 entR mb c D) (h : Nd w op wd vl name p zs) : Nd w' op wd vl name p zs :=
  ⟨h.o, h.d, h.v, h.s, h.l, h.z, fun h0 => by
    obtain ⟨b, off, h1, h2, h3⟩ := h.r h0
    exact ⟨b, off, h1, Nat.lt_of_lt_of_le h2 f.size, fun k hk => f.cell hm (h3 k hk)⟩⟩
set_option maxRecDepth 100000 in
set_option maxHeartbeats 400000 in
theorem put_old (B tb mb cc : Nat) (D : DataW Unit) (op wd : Int) (vl : Nat) (name : ByteArray) (p : Option Addr) (c : Nat) (zs : List Int) (id : Int) (w : World) (ht : Tb w) (hn : Nd w op wd vl name p zs) (h : TB B w tb mb cc D) (hh : Maps.has D (.string (keyL op wd vl name zs)) = true) :
    Calls Tryd.prog 25 #[.pointer (some ⟨tb, 0, none⟩), .agg #[.int .i64 op, .int .i64 wd, .int .u64 vl, .string name, .slice p zs.length c], .int .i64 id] w fun e w' => e = .returned (.bool false) ∧ BK w w' := by
  have hk0 : BK w (w.alloc (.cells #[.int .i64 op, .int .i64 wd, .int .u64 vl, .string name, .slice p zs.length c] 26)) := bk_alloc (BK.refl w) _
  have hx := b5_new w (.int .i64 op) (.int .i64 wd) (.int .u64 vl) (.string name) (.slice p zs.length c) 26
  have hlt := box_lt w #[.int .i64 op, .int .i64 wd, .int .u64 vl, .string name, .slice p zs.length c] 26
  have hT := h.keep hk0
  have hkey := fun wc (hb : BK (w.alloc (.cells #[.int .i64 op, .int .i64 wd, .int .u64 vl, .string name, .slice p zs.length c] 26)) wc) => key_any op wd vl name p c zs wc (ht.keep (bk_tr hk0 hb)) (hn.keep (bk_tr hk0 hb))
  have hra := hn.r.keep hk0
  have hzl := hn.l
  have hkl := key_len hn
  generalize keyL op wd vl name zs = KL at *
  clear h ht hn
  go_enter Tryd.func25, Tryd.ntmps25
  go_wp2_with fail
  generalize w.alloc (.cells #[.int .i64 op, .int .i64 wd, .int .u64 vl, .string name, .slice p zs.length c] 26) = w0 at hk0 hx hlt hT hkey hra ⊢
  have KC := Lib.hid (fun wc (hb : BK w0 wc) => And.intro (hT.keep hb) (hx.keep hb hlt))
  have LK := Lib.hid (fun wc (hb : BK w0 wc) => (hT.keep hb).look hkl)
  have KY := Lib.hid (fun wc (hb : BK w0 wc) => (hkey wc hb).mono (fun e w' (he : _ ∧ _) => (⟨he.1, he.2, bk_tr hb he.2⟩ : e = .returned (.string ⟨KL.toArray⟩) ∧ BK wc w' ∧ BK w0 w')))
  have RA := Lib.hid hra
  have HK0 := Lib.hid hk0
  have us := usable_any tb w0 hT.c0
  obtain ⟨c1, hx'⟩ := And.intro hT.c1 hx
  have k0 := BK.refl w0
  clear hx hT hkey hra hk0
  refine us.mono ?_
  rintro e w' ⟨rfl, rfl⟩
  clear us
  obtain ⟨x0, x1, x2, x3, x4⟩ := hx'
  go_wp2_with fail
  refine (KY.out _ k0).mono ?_
  rintro e w1 ⟨rfl, _, hk1⟩
  obtain ⟨eo, ed, ev, es, ep, en, ec, id0, hlk, _⟩ := LK.out _ hk1
  rw [hh] at hlk
  have T1 := (KC.out _ hk1).1
  have c1' := T1.c1
  clear c1 x0 x1 x2 x3 x4
  have H1 := Lib.hid (bk_tr HK0.out hk1)
  clear hk1 T1
  go_wp2_with fail
  go_ret
  exact ⟨rfl, bk_alloc H1.out _⟩
set_option maxRecDepth 100000 in
set_option maxHeartbeats 400000 in
theorem put_new (B tb mb cc : Nat) (D : DataW Unit) (op wd : Int) (vl : Nat) (name : ByteArray) (p : Option Addr) (c : Nat) (zs : List Int) (id : Int) (w : World) (ht : Tb w) (hn : Nd w op wd vl name p zs) (h : TB B w tb mb cc D) (hh : Maps.has D (.string (keyL op wd vl name zs)) = false) (hB : B ≤ w.heap.size) (hcc : cc < maxLen) :
    Calls Tryd.prog 25 #[.pointer (some ⟨tb, 0, none⟩), .agg #[.int .i64 op, .int .i64 wd, .int .u64 vl, .string name, .slice p zs.length c], .int .i64 id] w fun e w' => e = .returned (.bool true) ∧ TB B w' tb mb (cc + 1) (D.put (.string (keyL op wd vl name zs)) (.lit (.int .i64 id))) ∧ Fr w w' mb := by
  have hBw := hB
  have hk0 : BK w (w.alloc (.cells #[.int .i64 op, .int .i64 wd, .int .u64 vl, .string name, .slice p zs.length c] 26)) := bk_alloc (BK.refl w) _
  have hx := b5_new w (.int .i64 op) (.int .i64 wd) (.int .u64 vl) (.string name) (.slice p zs.length c) 26
  have hlt := box_lt w #[.int .i64 op, .int .i64 wd, .int .u64 vl, .string name, .slice p zs.length c] 26
  have hT := h.keep hk0
  have hkey := fun wc (hb : BK (w.alloc (.cells #[.int .i64 op, .int .i64 wd, .int .u64 vl, .string name, .slice p zs.length c] 26)) wc) => key_any op wd vl name p c zs wc (ht.keep (bk_tr hk0 hb)) (hn.keep (bk_tr hk0 hb))
  have hra := hn.r.keep hk0
  have hzl := hn.l
  have hkl := key_len hn
  generalize keyL op wd vl name zs = KL at *
  clear h ht hn
  go_enter Tryd.func25, Tryd.ntmps25
  go_wp2_with fail
  generalize w.alloc (.cells #[.int .i64 op, .int .i64 wd, .int .u64 vl, .string name, .slice p zs.length c] 26) = w0 at hk0 hx hlt hT hkey hra ⊢
  have KC := Lib.hid (fun wc (hb : BK w0 wc) => And.intro (hT.keep hb) (hx.keep hb hlt))
  have LK := Lib.hid (fun wc (hb : BK w0 wc) => (hT.keep hb).look hkl)
  have KY := Lib.hid (fun wc (hb : BK w0 wc) => (hkey wc hb).mono (fun e w' (he : _ ∧ _) => (⟨he.1, he.2, bk_tr hb he.2⟩ : e = .returned (.string ⟨KL.toArray⟩) ∧ BK wc w' ∧ BK w0 w')))
  have RA := Lib.hid hra
  have HK0 := Lib.hid hk0
  have us := usable_any tb w0 hT.c0
  obtain ⟨c1, hx'⟩ := And.intro hT.c1 hx
  have k0 := BK.refl w0
  clear hx hT hkey hra hk0
  refine us.mono ?_
  rintro e w' ⟨rfl, rfl⟩
  clear us
  obtain ⟨x0, x1, x2, x3, x4⟩ := hx'
  go_wp2_with fail
  refine (KY.out _ k0).mono ?_
  rintro e w1 ⟨rfl, _, hk1⟩
  obtain ⟨eo, ed, ev, es, ep, en, ec, id0, hlk, _⟩ := LK.out _ hk1
  rw [hh] at hlk
  have T1 := (KC.out _ hk1).1
  have c1' := T1.c1
  clear c1 x0 x1 x2 x3 x4
  have CP := Lib.hid (fun wc (hb : BK w0 wc) => (copy_any op wd vl name p c zs wc (RA.out.keep hb) hzl).mono (fun e w' (he : ∃ p' c', _ ∧ _ ∧ _) => (by
    obtain ⟨p', c', h1, _, h3⟩ := he
    exact ⟨p', c', h1, bk_tr hb h3⟩ : ∃ p' c', e = .returned (.agg #[.int .i64 op, .int .i64 wd, .int .u64 vl, .string name, .slice p' zs.length c']) ∧ BK w0 w')))
  have hk2 := bk_alloc hk1 (.cells #[.int .i64 eo, .int .i64 ed, .int .u64 ev, .string es, .slice ep en ec, .int .i64 id0] 71)
  obtain ⟨x0, x1, x2, x3, x4⟩ := (KC.out _ hk1).2
  have hblt := bk_size hk1
  have hwb := Lib.hid (bk_tr HK0.out hk1)
  have nb : w.heap.size < w1.heap.size := by omega
  have nt := T1.lt
  have nm := T1.ne
  have nb2 : w.heap.size ≠ mb := by
    intro hm
    obtain ⟨es', cl', hmb, _⟩ := T1.map
    rw [← hm] at hmb
    have := x0
    unfold World.cell? at this
    simp [hmb] at this
  clear T1
  go_wp2_with fail
  go_region_held3 (fun w' => w'.cell? ⟨tb, 1, none⟩ = some (.map (some mb)) ∧ w'.cell? ⟨w.heap.size, 0, none⟩ = some (.int .i64 op) ∧ w'.cell? ⟨w.heap.size, 1, none⟩ = some (.int .i64 wd) ∧ w'.cell? ⟨w.heap.size, 2, none⟩ = some (.int .u64 vl) ∧ w'.cell? ⟨w.heap.size, 3, none⟩ = some (.string name) ∧ w'.cell? ⟨w.heap.size, 4, none⟩ = some (.slice p zs.length c))
    (first | exact hS9 | exact ⟨(KC.out _ (by first | assumption | exact bk_drew (by assumption) | exact bk_alloc (by assumption) _ | exact bk_drew (bk_alloc (by assumption) _))).1.c1, (KC.out _ (by first | assumption | exact bk_drew (by assumption) | exact bk_alloc (by assumption) _ | exact bk_drew (bk_alloc (by assumption) _))).2⟩ | (go_keep; done))
    ((go_at_call 23; refine (CP.out _ (by first | assumption | exact bk_drew (by assumption) | exact bk_alloc (by assumption) _ | exact bk_drew (bk_alloc (by assumption) _))).mono ?_; rintro e w3 ⟨p3, c3, rfl, hk3⟩; have T3 := (KC.out _ hk3).1; obtain ⟨w9, hrun9, hm9, ht9⟩ := T3.map.store keyLaw Tryd.underlying56 hcc (key_of hkl) (entR_mk (id := id) (v := .agg #[.int .i64 op, .int .i64 wd, .int .u64 vl, .string name, .slice p3 zs.length c3, .int .i64 id]) ⟨op, wd, vl, name, p3, zs.length, c3, rfl⟩); have hS9 := And.intro (T3.turned ht9 hm9).c1 ((KC.out _ hk3).2.turned ht9 nb2)))
  all_goals have T9 := Lib.hid (T3.turned ht9 hm9)
  all_goals have H9 := Lib.hid (show Fr w w9 mb from ⟨w3, bk_tr HK0.out hk3, ht9⟩)
  all_goals clear T3 ht9 hm9 hS9 hk3 hrun9
  all_goals go_wp2_with fail
  all_goals go_ret
  all_goals exact ⟨rfl, T9.out, H9.out⟩
set_option maxRecDepth 100000 in
set_option maxHeartbeats 400000 in
theorem del_any (B tb mb cc : Nat) (D : DataW Unit) (op wd : Int) (vl : Nat) (name : ByteArray) (p : Option Addr) (c : Nat) (zs : List Int) (w : World) (ht : Tb w) (hn : Nd w op wd vl name p zs) (h : TB B w tb mb cc D) (hB : B ≤ w.heap.size) :
    Calls Tryd.prog 27 #[.pointer (some ⟨tb, 0, none⟩), .agg #[.int .i64 op, .int .i64 wd, .int .u64 vl, .string name, .slice p zs.length c]] w fun e w' => e = .returned (.bool (Maps.has D (.string (keyL op wd vl name zs)))) ∧ TB B w' tb mb cc (D.del (.string (keyL op wd vl name zs))) ∧ Fr w w' mb := by
  have hBw := hB
  have hk0 : BK w (w.alloc (.cells #[.int .i64 op, .int .i64 wd, .int .u64 vl, .string name, .slice p zs.length c] 26)) := bk_alloc (BK.refl w) _
  have hx := b5_new w (.int .i64 op) (.int .i64 wd) (.int .u64 vl) (.string name) (.slice p zs.length c) 26
  have hlt := box_lt w #[.int .i64 op, .int .i64 wd, .int .u64 vl, .string name, .slice p zs.length c] 26
  have hT := h.keep hk0
  have hkey := fun wc (hb : BK (w.alloc (.cells #[.int .i64 op, .int .i64 wd, .int .u64 vl, .string name, .slice p zs.length c] 26)) wc) => key_any op wd vl name p c zs wc (ht.keep (bk_tr hk0 hb)) (hn.keep (bk_tr hk0 hb))
  have hra := hn.r.keep hk0
  have hzl := hn.l
  have hkl := key_len hn
  generalize keyL op wd vl name zs = KL at *
  clear h ht hn
  go_enter Tryd.func27, Tryd.ntmps27
  go_wp2_with fail
  generalize w.alloc (.cells #[.int .i64 op, .int .i64 wd, .int .u64 vl, .string name, .slice p zs.length c] 26) = w0 at hk0 hx hlt hT hkey hra ⊢
  have KC := Lib.hid (fun wc (hb : BK w0 wc) => And.intro (hT.keep hb) (hx.keep hb hlt))
  have LK := Lib.hid (fun wc (hb : BK w0 wc) => (hT.keep hb).look hkl)
  have KY := Lib.hid (fun wc (hb : BK w0 wc) => (hkey wc hb).mono (fun e w' (he : _ ∧ _) => (⟨he.1, he.2, bk_tr hb he.2⟩ : e = .returned (.string ⟨KL.toArray⟩) ∧ BK wc w' ∧ BK w0 w')))
  have RA := Lib.hid hra
  have HK0 := Lib.hid hk0
  have us := usable_any tb w0 hT.c0
  obtain ⟨c1, hx'⟩ := And.intro hT.c1 hx
  have k0 := BK.refl w0
  clear hx hT hkey hra hk0
  refine us.mono ?_
  rintro e w' ⟨rfl, rfl⟩
  clear us
  obtain ⟨x0, x1, x2, x3, x4⟩ := hx'
  go_wp2_with fail
  refine (KY.out _ k0).mono ?_
  rintro e w1 ⟨rfl, _, hk1⟩
  obtain ⟨eo, ed, ev, es, ep, en, ec, id0, hlk, _⟩ := LK.out _ hk1
  have T1 := (KC.out _ hk1).1
  have c1' := T1.c1
  clear c1 x0 x1 x2 x3 x4
  have hk2 := bk_alloc hk1 (.cells #[.int .i64 eo, .int .i64 ed, .int .u64 ev, .string es, .slice ep en ec, .int .i64 id0] 71)
  have T2 := (KC.out _ hk2).1
  have hM := T2.map
  have c2 := T2.c1
  have H2 := Lib.hid (bk_tr HK0.out hk2)
  have TT := Lib.hid T2
  have hkk := key_of hkl
  clear T1 T2 hk1 hk2
  go_wp2_with (at_delete; refine wpList_delete_own _ rfl _ _ 56 9 rfl 71 keyLaw Tryd.underlying56 _ mb cc D rfl hM _ _ rfl hkk ?_)
  intro w9 hm9 ht9
  have T9 := Lib.hid (TT.out.turned ht9 hm9)
  have H9 := Lib.hid (show Fr w w9 mb from ⟨_, H2.out, ht9⟩)
  clear hM hm9 ht9 hlk c1' c2
  go_wp2_with fail
  go_ret
  exact ⟨rfl, T9.out, H9.out⟩
end Go.Proofs.YtclefcjojlkcnaaDoor
