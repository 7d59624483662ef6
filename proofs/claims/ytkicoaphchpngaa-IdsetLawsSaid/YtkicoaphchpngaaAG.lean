/- A work list beside the reference's set: each call, in every world that the calls before it may leave. -/
import Derived.Test.YtkicoaphchpngaaAE
import Derived.Test.YtkicoaphchpngaaAC
namespace Go.Proofs.Ytkicoaphchpngaa
open Go.RowKit Go.Lib Go.Sort Go.Maps
set_option linter.unusedVariables false
set_option linter.unusedSimpArgs false
def BK (w0 w' : World) : Prop := Below w0.heap.size w0 w'
theorem BK.refl (w : World) : BK w w := Below.refl _ _
theorem bk_drew {w0 wc : World} (h : BK w0 wc) : BK w0 wc.drew := below_drawn (B := w0.heap.size) h ⟨1, rfl⟩
theorem own_shape {w : World} {B n : Nat} {v : Value} {xs : List Value} (h : w.ownsRow B 3 1 v n xs) : ∃ p c, v = .slice p n c := by
  rcases Joins.ownsRow_forms h with ⟨hv, h0⟩ | ⟨g, cap, hv⟩
  · exact ⟨none, 0, by rw [hv, h0]⟩
  · exact ⟨_, cap, hv⟩
theorem FrM.pre {w wc w' : World} {bq mb : Nat} {sv sv' : Value} (hb : BK w wc) (h : FrM wc w' bq mb sv sv') : FrM w w' bq mb sv sv' :=
  have hb : Below w.heap.size w wc := hb
  ⟨h.os.trans hb.os, h.tape.trans hb.tape, h.output.trans hb.output, Nat.le_trans hb.size h.size,
    fun k hk h1 h2 h3 => (h.block k (Nat.lt_of_lt_of_le hk hb.size) h1 h2 h3).trans (hb.block k hk), h.own.imp id fun h k hk => Nat.le_trans hb.size (h k hk)⟩
theorem FrM.post {w w' wc : World} {bq mb : Nat} {sv sv' : Value} (h : FrM w w' bq mb sv sv') (hb : BK w' wc) : FrM w wc bq mb sv sv' :=
  have hb : Below w'.heap.size w' wc := hb
  ⟨hb.os.trans h.os, hb.tape.trans h.tape, hb.output.trans h.output, Nat.le_trans h.size hb.size,
    fun k hk h1 h2 h3 => (hb.block k (Nat.lt_of_lt_of_le hk h.size)).trans (h.block k hk h1 h2 h3), h.own⟩
def PK (w0 wr : World) (bq mb c : Nat) (sv : Value) (ss' : List Int) (wc : World) : Prop :=
  ∃ c' sv' zs', QM wc w0.heap.size bq mb c' sv' zs' ∧ FrM wr wc bq mb sv sv' ∧ (∀ y, y ∈ zs' ↔ y ∈ ss') ∧ (∀ y ∈ zs', (Lit.int .i64 y).wf = true) ∧ c' ≤ c + 1
def QF (w0 : World) (bq mb k : Nat) (v' : Value) (w' : World) : Prop :=
  ∃ c' sv' zs' ss', QI w0 w' bq mb c' sv' zs' v' ss' ∧ ss'.length ≤ k ∧ c' ≤ k
section
variable {w0 wr : World} {bq mb c : Nat} {sv v : Value} {zs ss ss' : List Int}
theorem PK.keep {wc w' : World} (h : PK w0 wr bq mb c sv ss' wc) (hb : BK wc w') : PK w0 wr bq mb c sv ss' w' := by
  obtain ⟨c', sv', zs', h1, h2, h3, h4, h5⟩ := h
  exact ⟨c', sv', zs', h1.keep hb, h2.post hb, h3, h4, h5⟩
theorem pk_drew {wc : World} (h : PK w0 wr bq mb c sv ss' wc) : PK w0 wr bq mb c sv ss' wc.drew := h.keep (bk_drew (BK.refl _))
theorem PK.row {wc : World} (h : PK w0 wr bq mb c sv ss' wc) (k : QI w0 wr bq mb c sv zs v ss) : wc.ownsRow w0.heap.size 3 1 v ss.length (nums ss) := by
  obtain ⟨c', sv', zs', h1, h2, h3, h4, h5⟩ := h
  exact k.rd' h2
theorem PK.bel {wc : World} (h : PK w0 wr bq mb c sv ss' wc) (k : QI w0 wr bq mb c sv zs v ss) : Below w0.heap.size w0 wc := by
  obtain ⟨c', sv', zs', h1, h2, h3, h4, h5⟩ := h
  exact k.bel.trans (h2.below k.q)
theorem PK.fin {wc w' : World} {v' : Value} {n : Nat} (h : PK w0 wr bq mb c sv ss' wc) (k : QI w0 wr bq mb c sv zs v ss) (hb : Below wc.heap.size wc w') (hr : w'.ownsRow wc.heap.size 3 1 v' ss'.length (nums ss')) (hs : SS ss') (h1 : ss'.length ≤ n) (h2 : c + 1 ≤ n) : QF w0 bq mb n v' w' := by
  obtain ⟨c', sv', zs', q1, q2, q3, q4, q5⟩ := h
  exact ⟨c', sv', zs', ss', k.next q1 q2 hb hr hs q3 q4, h1, by omega⟩
theorem p34 (k : QI w0 wr bq mb c sv zs v ss) (x : Int) (hx : (Lit.int .i64 x).wf = true) (hl : ss.length ≤ 400) (hc : c ≤ 400) (wc : World) (hb : BK wr wc) :
    Calls Try.prog 34 #[.pointer (some ⟨bq, 0, none⟩), .int .i64 x] wc fun e w' => e = .returned (.bool (!memB ss x)) ∧ PK w0 wr bq mb c sv (ofL (ss ++ [x])) w' := by
  have kq := k.q.keep hb
  have hzl := k.len
  by_cases hz : x ∈ zs
  · have : memB ss x = true := decide_eq_true ((k.mem x).1 hz)
    rw [this]
    refine (qpush_in _ bq _ c sv zs x wc hx kq hz).mono ?_
    rintro e w' ⟨rfl, rfl⟩
    exact ⟨rfl, c, sv, zs, kq, (FrM.refl _ _ _ _).post hb, qmem_hit k.mem hz, k.wfs, by omega⟩
  · have : memB ss x = false := decide_eq_false (fun e => hz ((k.mem x).2 e))
    rw [this]
    refine (qpush_new _ bq _ c sv zs x wc hx kq hz (by omega) (by omega)).mono ?_
    rintro e w' ⟨rfl, sv', zs', q1, q2, q3⟩
    exact ⟨rfl, c + 1, sv', zs', q1, FrM.pre hb q3, mem_add k.mem q2, wf_add k.wfs hx q2, Nat.le_refl _⟩
theorem p17 (k : QI w0 wr bq mb c sv zs v ss) (x : Int) (hl : ss.length ≤ 400) (wc : World) (h : PK w0 wr bq mb c sv ss' wc) :
    Calls Try.prog 17 #[v, .int .i64 x] wc fun e w' => e = .returned (.bool (memB ss x)) ∧ PK w0 wr bq mb c sv ss' w' := by
  refine (rhas_any v x ss wc (Rd.own (h.row k)) (by omega)).mono ?_
  rintro e w' ⟨rfl, rfl⟩
  exact ⟨rfl, h⟩
theorem p21 (k : QI w0 wr bq mb c sv zs v ss) (x : Int) (n : Nat) (hl : ss.length ≤ 400) (h1 : ss.length + 1 ≤ n) (h2 : c + 1 ≤ n) (wc : World) (h : PK w0 wr bq mb c sv (ofL (ss ++ [x])) wc) :
    Calls Try.prog 21 #[v, .int .i64 x] wc fun e w' => ∃ v', e = .returned v' ∧ QF w0 bq mb n v' w' := by
  refine (radd_any v x ss wc (Rd.own (h.row k)) (own_pr (h.row k)) (by omega)).mono ?_
  rintro e w' ⟨v', rfl, ho, hb⟩
  exact ⟨v', rfl, h.fin k hb ho (ss_ofL _) (by have := add_len ss x; omega) h2⟩
theorem p35 (k : QI w0 wr bq mb c sv zs v ss) (hz : 0 < ss.length) (hl : ss.length ≤ 400) (wc : World) (hb : BK wr wc) :
    Calls Try.prog 35 #[.pointer (some ⟨bq, 0, none⟩)] wc fun e w' => e = .returned (.tuple #[.int .i64 (ss.getD 0 0), .bool true]) ∧ PK w0 wr bq mb c sv (dropL (ss.getD 0 0) (ofL ss)) w' := by
  have hzl := k.len
  have hh := k.head (by omega)
  refine (qpop_some _ bq _ c sv zs wc (k.q.keep hb) (by omega) (by omega) (k.wf0 (by omega))).mono ?_
  rintro e w' ⟨rfl, sv', zs', q1, q2, q3⟩
  rw [hh] at q2 ⊢
  exact ⟨rfl, c, sv', zs', q1, FrM.pre hb q3, mem_drop k.q.nodup k.mem k.srt q2, wf_drop k.wfs q2, by omega⟩
theorem p23 (k : QI w0 wr bq mb c sv zs v ss) (x : Int) (n : Nat) (hl : ss.length ≤ 400) (h1 : ss.length ≤ n) (h2 : c + 1 ≤ n) (wc : World) (h : PK w0 wr bq mb c sv (dropL x (ofL ss)) wc) :
    Calls Try.prog 23 #[v, .int .i64 x] wc fun e w' => ∃ v', e = .returned v' ∧ QF w0 bq mb n v' w' := by
  refine (rremove_any v x ss wc (Rd.own (h.row k)) (by omega)).mono ?_
  rintro e w' ⟨v', rfl, ho, hb⟩
  exact ⟨v', rfl, h.fin k hb ho (ss_drop _ _ (ss_ofL _)) (Nat.le_trans (drop_len2 ss x k.srt) h1) h2⟩
theorem p36 (k : QI w0 wr bq mb c sv zs v ss) (wc : World) (hb : BK wr wc) :
    Calls Try.prog 36 #[.pointer (some ⟨bq, 0, none⟩)] wc fun e w' => e = .returned (.int .i64 ss.length) ∧ BK wr w' := by
  rw [← k.len]
  refine (qlen_any _ bq _ c sv zs wc (k.q.keep hb)).mono ?_
  rintro e w' ⟨rfl, rfl⟩
  exact ⟨rfl, hb⟩
/-- v and v2 both read as ss -/
def IK (wr : World) (ss : List Int) (v2 : Value) (wc : World) : Prop := BK wr wc ∧ Rd wc v2 ss
theorem ik_drew {wc : World} {v2 : Value} (h : IK wr ss v2 wc) : IK wr ss v2 wc.drew := ⟨bk_drew h.1, h.2.below (bk_drew (BK.refl _))⟩
theorem p37 (k : QI w0 wr bq mb c sv zs v ss) (hl : ss.length ≤ 400) (wc : World) (hb : BK wr wc) :
    Calls Try.prog 37 #[.pointer (some ⟨bq, 0, none⟩)] wc fun e w' => ∃ v2, e = .returned v2 ∧ IK wr ss v2 w' := by
  refine (qitems_any _ bq _ c sv zs wc (k.q.keep hb) (by have := k.len; omega)).mono ?_
  rintro e w' ⟨v2, rfl, ho, hb2⟩
  rw [k.sorted] at ho
  exact ⟨v2, rfl, below_up hb hb2, Rd.own ho⟩
theorem p11 (k : QI w0 wr bq mb c sv zs v ss) (hl : ss.length ≤ 400) (v2 : Value) (wc : World) (h : IK wr ss v2 wc) :
    Calls Try.prog 11 #[v2, v] wc fun e w' => e = .returned (.bool true) ∧ BK wr w' := by
  refine (same_any v2 v ss ss wc h.2 (k.rd.below h.1) (by omega)).mono ?_
  rw [sameB_self]
  rintro e w' ⟨rfl, hd⟩
  exact ⟨rfl, below_up h.1 (drawn_below hd)⟩
theorem p10 (wc : World) (hb : BK wr wc) : Calls Try.prog 10 #[] wc fun e w' => e = .returned (.bool true) ∧ BK wr w' := by
  refine (lives_any wc).mono ?_
  rintro e w' ⟨rfl, h⟩
  exact ⟨rfl, below_up hb h⟩
theorem QF.same {k : QI w0 wr bq mb c sv zs v ss} {n : Nat} {wc : World} (hb : BK wr wc) (h1 : ss.length ≤ n) (h2 : c ≤ n) : QF w0 bq mb n v wc := ⟨c, sv, zs, ss, k.keep hb, h1, h2⟩
end
end Go.Proofs.Ytkicoaphchpngaa
