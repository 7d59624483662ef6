/- The table: Get, Put, Del. -/
import Derived.Test.YtclefcjojlkcnaaDoorD
namespace Go.Proofs.YtclefcjojlkcnaaDoor
open Go.RowKit Go.Maps Go.ChangeMaps Go.ChangeShapes Go.WideShapes
set_option linter.unusedVariables false
set_option linter.unusedSimpArgs false
theorem key_len {op wd : Int} {vl : Nat} {name : ByteArray} {zs : List Int} {w : World} {p : Option Addr} (h : Nd w op wd vl name p zs) : (keyL op wd vl name zs).length ≤ 3000000 := by
  have h1 := itoa_b _ h.o
  have h2 := itoa_b _ h.d
  have h3 := dec_len vl h.v
  have h4 := itoa_b (zs.length : Int) ⟨by have := h.l; omega, by have := h.l; omega⟩
  have h5 := flat_b zs h.z zs.length
  have h6 := h.l
  have h7 : name.data.toList.length ≤ 1000000 := h.s
  simp only [keyL, headL, List.length_append, List.length_cons, List.length_nil]
  omega
def kl (op wd : Int) (vl : Nat) (name : ByteArray) (zs : List Int) : Lit := .string (keyL op wd vl name zs)
theorem of_drew {a b : World} (h : BK a.drew b) : BK a b := ⟨h.os, h.tape, h.output, h.size, h.block⟩
theorem zc_at {a b : World} (h : BK a b) (k : Nat) : ∀ o, k < a.heap.size → b.cell? ⟨k, o, none⟩ = a.cell? ⟨k, o, none⟩ := fun o hk => (show Below a.heap.size a b from h).cell (p := ⟨k, o, none⟩) hk
theorem zf_at {a b : World} (h : BK a b) (k : Nat) : ∀ o, k < a.heap.size → b.frozen? ⟨k, o, none⟩ = a.frozen? ⟨k, o, none⟩ := fun o hk => (show Below a.heap.size a b from h).frozen (p := ⟨k, o, none⟩) hk
def ZC : Array Value := #[.int .i64 0, .int .i64 0, .int .u64 0, .string ⟨#[]⟩, .slice none 0 0, .int .i64 0]
def B6 (w : World) (b : Nat) : Prop := w.cell? ⟨b, 0, none⟩ = some (.int .i64 0) ∧ w.cell? ⟨b, 1, none⟩ = some (.int .i64 0) ∧ w.cell? ⟨b, 2, none⟩ = some (.int .u64 0) ∧ w.cell? ⟨b, 3, none⟩ = some (.string ⟨#[]⟩) ∧ w.cell? ⟨b, 4, none⟩ = some (.slice none 0 0) ∧ w.cell? ⟨b, 5, none⟩ = some (.int .i64 0) ∧ ∀ k, w.frozen? ⟨b, k, none⟩ = false
theorem b6_new (w : World) : B6 (w.alloc (.cells #[.int .i64 0, .int .i64 0, .int .u64 0, .string ⟨#[]⟩, .slice none 0 0, .int .i64 0] 71)) w.heap.size := by
  refine ⟨?_, ?_, ?_, ?_, ?_, ?_, fz_new _ _ _⟩ <;> (rw [World.cell?_alloc_new]; rfl)
theorem B6.keep {w w' : World} {b : Nat} (h : B6 w b) (hb : BK w w') (hlt : b < w.heap.size) : B6 w' b := by
  obtain ⟨a0, a1, a2, a3, a4, a5, f⟩ := h
  have hb' : Below w.heap.size w w' := hb
  exact ⟨(hb'.cell (p := ⟨b, 0, none⟩) hlt).trans a0, (hb'.cell (p := ⟨b, 1, none⟩) hlt).trans a1, (hb'.cell (p := ⟨b, 2, none⟩) hlt).trans a2, (hb'.cell (p := ⟨b, 3, none⟩) hlt).trans a3, (hb'.cell (p := ⟨b, 4, none⟩) hlt).trans a4, (hb'.cell (p := ⟨b, 5, none⟩) hlt).trans a5, fz_keep f hb hlt⟩
theorem key_of {l : List UInt8} (h : l.length ≤ 3000000) : keyOf Tryd.prog 9 (.string ⟨l.toArray⟩) = some (.string l) := by
  have := Go.WideMaps.keyOf_string_mk (P := Tryd.prog) Tryd.underlying9 (s := ⟨l.toArray⟩) (by show l.toArray.size ≤ maxLen; simp [maxLen]; omega)
  simpa using this
/-- what a look-up finds -/
def Look (wc : World) (mb : Nat) (D : DataW Unit) (K : List UInt8) : Prop := ∃ (op wd vl : Int) (s : ByteArray) (p : Option Addr) (n c : Nat) (id : Int), (Instr.lookup 56 (.map (some mb)) (.string ⟨K.toArray⟩) true).run Tryd.prog wc = .ok (.tuple #[.agg #[.int .i64 op, .int .i64 wd, .int .u64 vl, .string s, .slice p n c, .int .i64 id], .bool (Maps.has D (.string K))]) wc ∧ D.atKey (.string K) (.lit (.int .i64 0)) = .lit (.int .i64 id)
theorem TB.look {B : Nat} {w : World} {tb mb c : Nat} {D : DataW Unit} (h : TB B w tb mb c D) {K : List UInt8} (hK : K.length ≤ 3000000) : Look w mb D K := by
  obtain ⟨v, ps, hlk, hv⟩ := h.map.look_ok keyLaw Tryd.underlying56 (zero71 w) zent_R (key_of hK)
  obtain ⟨id, ⟨op, wd, vl, s, p, n, c, rfl⟩, hz⟩ := entR_inv hv
  exact ⟨op, wd, vl, s, p, n, c, id, hlk, by simpa using congrArg Prod.fst hz⟩
theorem box_lt (w : World) (cs : Array Value) (T : Nat) : w.heap.size < (w.alloc (.cells cs T)).heap.size := by simp
set_option maxRecDepth 100000 in
set_option maxHeartbeats 400000 in
theorem get_any (B tb mb cc : Nat) (D : DataW Unit) (op wd : Int) (vl : Nat) (name : ByteArray) (p : Option Addr) (c : Nat) (zs : List Int) (w : World) (ht : Tb w) (hn : Nd w op wd vl name p zs) (h : TB B w tb mb cc D) :
    Calls Tryd.prog 29 #[.pointer (some ⟨tb, 0, none⟩), .agg #[.int .i64 op, .int .i64 wd, .int .u64 vl, .string name, .slice p zs.length c]] w fun e w' => ∃ id, e = .returned (.tuple #[.int .i64 id, .bool (Maps.has D (.string (keyL op wd vl name zs)))]) ∧ D.atKey (.string (keyL op wd vl name zs)) (.lit (.int .i64 0)) = .lit (.int .i64 id) ∧ BK w w' := by
  have hk0 : BK w (w.alloc (.cells #[.int .i64 op, .int .i64 wd, .int .u64 vl, .string name, .slice p zs.length c] 26)) := bk_alloc (BK.refl w) _
  have hx := b5_new w (.int .i64 op) (.int .i64 wd) (.int .u64 vl) (.string name) (.slice p zs.length c) 26
  have hlt := box_lt w #[.int .i64 op, .int .i64 wd, .int .u64 vl, .string name, .slice p zs.length c] 26
  have hT := h.keep hk0
  have hkey := fun wc (hb : BK (w.alloc (.cells #[.int .i64 op, .int .i64 wd, .int .u64 vl, .string name, .slice p zs.length c] 26)) wc) => key_any op wd vl name p c zs wc (ht.keep (bk_tr hk0 hb)) (hn.keep (bk_tr hk0 hb))
  have hra := hn.r.keep hk0
  have hzl := hn.l
  have hkl := key_len hn
  generalize keyL op wd vl name zs = KL at *
  clear h ht hn
  go_enter Tryd.func29, Tryd.ntmps29
  go_wp2_with fail
  generalize w.alloc (.cells #[.int .i64 op, .int .i64 wd, .int .u64 vl, .string name, .slice p zs.length c] 26) = w0 at hk0 hx hlt hT hkey hra ⊢
  have KC := Lib.hid (fun wc (hb : BK w0 wc) => And.intro (hT.keep hb) (hx.keep hb hlt))
  have LK := Lib.hid (fun wc (hb : BK w0 wc) => (hT.keep hb).look hkl)
  have KY := Lib.hid (fun wc (hb : BK w0 wc) => (hkey wc hb).mono (fun e w' (he : _ ∧ _) => (⟨he.1, he.2, bk_tr hb he.2⟩ : e = .returned (.string ⟨KL.toArray⟩) ∧ BK wc w' ∧ BK w0 w')))
  have RA := Lib.hid hra
  have HK0 := Lib.hid hk0
  have us := usable_any tb w0 hT.c0
  obtain ⟨c1, hx'⟩ := And.intro hT.c1 hx
  have k0 := BK.refl w0
  clear hx hT hkey hra hk0
  refine us.mono ?_
  rintro e w' ⟨rfl, rfl⟩
  clear us
  obtain ⟨x0, x1, x2, x3, x4⟩ := hx'
  have ne1 : w0.heap.size ≠ tb := by have := (KC.out _ k0).1.lt; omega
  have ne2 : w0.heap.size ≠ w.heap.size := by omega
  go_wp2_with fail
  go_region_held3 (fun w' => w'.cell? ⟨tb, 1, none⟩ = some (.map (some mb)) ∧ w'.cell? ⟨w.heap.size, 0, none⟩ = some (.int .i64 op) ∧ w'.cell? ⟨w.heap.size, 1, none⟩ = some (.int .i64 wd) ∧ w'.cell? ⟨w.heap.size, 2, none⟩ = some (.int .u64 vl) ∧ w'.cell? ⟨w.heap.size, 3, none⟩ = some (.string name) ∧ w'.cell? ⟨w.heap.size, 4, none⟩ = some (.slice p zs.length c))
    (first | (go_keep; done) | exact ⟨(KC.out _ (by first | exact bk_drew k0 | exact bk_drew (bk_alloc k0 _) | assumption | exact bk_alloc (by assumption) _)).1.c1, (KC.out _ (by first | exact bk_drew k0 | exact bk_drew (bk_alloc k0 _) | assumption | exact bk_alloc (by assumption) _)).2⟩)
    ((go_at_call 17; refine (KY.out _ (by first | exact bk_drew k0 | exact bk_drew (bk_alloc k0 _) | assumption | exact bk_alloc (by assumption) _)).mono ?_; rintro e w1 ⟨rfl, hb1, hk1⟩; obtain ⟨eo, ed, ev, es, ep, en, ec, id, hlk, hid⟩ := LK.out _ hk1; obtain ⟨eo', ed', ev', es', ep', en', ec', id', hlk', hid'⟩ := LK.out _ (bk_alloc hk1 (.cells #[.int .i64 0, .int .i64 0, .int .u64 0, .string ⟨#[]⟩, .slice none 0 0, .int .i64 0] 71)); have hzc := zc_at hb1 w0.heap.size; have hzf := zf_at hb1 w0.heap.size))
  all_goals have HI := Lib.hid hid
  all_goals have HI' := Lib.hid hid'
  all_goals have H1 := Lib.hid (bk_tr HK0.out hk1)
  all_goals have hz0 := bk_size HK0.out
  all_goals clear hid hid' hlk hlk' c1 x0 x1 x2 x3 x4
  all_goals go_wp2_with fail
  all_goals go_ret2
  · exact ⟨id, rfl, HI.out, bk_alloc H1.out _⟩
  · exact ⟨id', rfl, HI'.out, bk_alloc H1.out _⟩
  · exact ⟨id, rfl, HI.out, bk_set (bk_set (bk_set (bk_set (bk_set (bk_set H1.out _ _ hz0) _ _ hz0) _ _ hz0) _ _ hz0) _ _ hz0) _ _ hz0⟩
end Go.Proofs.YtclefcjojlkcnaaDoor
