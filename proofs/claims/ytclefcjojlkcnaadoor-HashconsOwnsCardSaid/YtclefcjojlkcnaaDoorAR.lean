/- Equal lists are the same; both tables beside each other. -/
import Derived.Test.YtclefcjojlkcnaaDoorAQ
import Derived.Test.YtclefcjojlkcnaaDoorAL
namespace Go.Proofs.YtclefcjojlkcnaaDoor.V
open Go.RowKit Go.Maps
open Go.Proofs.YtclefcjojlkcnaaDoor.G (RowA Step mem dom cN Cs EP Mono memO GL gl_push RowM AtD one_cN info26 cell_at bk_frozen bk_block RT rput26_new rdel28_some)
set_option linter.unusedVariables false
set_option linter.unusedSimpArgs false
set_option maxRecDepth 100000 in
set_option maxHeartbeats 4000000 in
theorem same32 (ms : List Nn) (hl : ms.length ≤ 1000) (okl : ∀ m ∈ ms, m.zs.length ≤ 1000) (w : World) (p q : Option Addr) (c d : Nat) (hp : RowN w p ms) (hq : RowN w q ms) :
    Calls Tryd.prog 32 #[.slice p ms.length c, .slice q ms.length d] w fun e w' => e = .returned (.bool true) ∧ BK w w' := by
  have HP := Lib.hid hp
  have HQ := Lib.hid hq
  have OK := Lib.hid okl
  have HL := Lib.hid hl
  clear hp hq okl hl
  go_enter Tryd.func32, Tryd.ntmps32
  go_wp2_with fail
  go_loopw [5] (fun iv wr => ∃ k : Nat, k ≤ ms.length ∧ iv = .int .i64 (k : Int) ∧ BK w wr) (fun iv _ => ms.length - (intOf iv).toNat)
  case atStart => exact ⟨0, Nat.zero_le _, rfl, BK.refl _⟩
  case round =>
    obtain ⟨k, hk, rfl, hb⟩ := hrel
    have KB := Lib.hid hb
    clear hb
    by_cases hlt : k < ms.length
    · have hki : (k : Int) < (ms.length : Int) := by omega
      have hd : decide (k < ms.length) = true := by simpa using hlt
      obtain ⟨b, o, hq1, hbl, hall⟩ := HP.out (by omega)
      obtain ⟨b', o', hq2, hbl', hall'⟩ := HQ.out (by omega)
      obtain ⟨q2, d2, ⟨y0, y1, y2, y3, y4⟩, hra⟩ := (hall k hlt).keep KB.out
      obtain ⟨q3, d3, ⟨z0, z1, z2, z3, z4⟩, hrb⟩ := (hall' k hlt).keep KB.out
      have OKM := Lib.hid (OK.out _ (List.getElem_mem hlt))
      generalize ms[k] = m at *
      have KD := Lib.hid (fun wc (hb : BK wr wc) => And.intro (And.intro (cell_bk y0 hb) (And.intro (cell_bk y1 hb) (And.intro (cell_bk y2 hb) (And.intro (cell_bk y3 hb) (cell_bk y4 hb))))) (And.intro (cell_bk z0 hb) (And.intro (cell_bk z1 hb) (And.intro (cell_bk z2 hb) (And.intro (cell_bk z3 hb) (cell_bk z4 hb))))))
      have CS0 := fun wc (hb : BK wr wc) => (same16 m.op m.wd m.vl m.op m.wd m.vl m.nm m.nm q2 q3 d2 d3 m.zs m.zs wc OKM.out OKM.out (hra.keep hb) (hrb.keep hb)).mono (fun e w' (h : _ ∧ _) => And.intro h.1 (bk_tr hb h.2))
      have e0 : cmpN m.op m.wd m.vl m.op m.wd m.vl m.nm m.nm m.zs m.zs = 0 := cmpM_self m
      rw [e0] at CS0
      have CS := Lib.hid CS0
      have ei : IntKind.i64.wrap ((k : Int) + 1) = (k : Int) + 1 := by have := HL.out; exact IntWalk.i64_in _ (by omega)
      have HLT := Lib.hid hlt
      clear y0 y1 y2 y3 y4 z0 z1 z2 z3 z4 hra hrb hall hall' hbl hbl' CS0 e0
      subst hq1
      subst hq2
      go_wp2_with fail
      refine wp_region_class (C := fun w' => BK wr w') (by kernel_rfl) (by kernel_rfl) (bk_drew (BK.refl _)) ?_
      repeat (first
        | go_big_quiet_step (fail)
        | (refine wpQuiet_step (fun K hK => ?_)
           go_simp
           first
             | (refine hK _ ?_; clear hK K)
             | (refine ⟨_, fun _ _ => rfl, hK _ ?_⟩; clear hK K)
             | (apply Exists.intro; refine ⟨fun w5 hw5 => ?_, hK _ ?_⟩; (go_at_call 16; with_reducible exact CS.out _ hw5); clear hK K)
             | (apply Exists.intro; refine ⟨fun w5 hw5 => ?_, hK _ ?_⟩; (obtain ⟨⟨a0, a1, a2, a3, a4⟩, ⟨b0, b1, b2, b3, b4⟩⟩ := KD.out _ hw5; go_simp; rfl); clear hK K)))
      refine wpQuiet_nil ?_
      intro wn hwn
      have KN := Lib.hid (bk_tr KB.out hwn)
      clear hwn
      go_wp2_with fail
      go_roundw
      case rel => exact ⟨k + 1, HLT.out, by go_num, KN.out⟩
      case measure => have := HLT.out; simp [intOf]; omega
    · have hd : decide (k < ms.length) = false := by simpa using hlt
      have hni : ¬ (k : Int) < (ms.length : Int) := by omega
      clear hlt hk
      go_wp2_with fail
      go_ret
      exact ⟨rfl, KB.out⟩
theorem id' {α : Prop} (h : α) : α := h
theorem TB.more {B : Nat} {w : World} {tb mb c : Nat} {D : DataW Value} (h : TB B w tb mb c D) : TB B w tb mb (c + 1) D := ⟨h.c0, h.c1, h.map.mono (Nat.le_succ _), h.lt, h.lo, h.ne⟩
theorem TB.step {B : Nat} {w w' : World} {F F' : Nat → Prop} {tb mb c : Nat} {D : DataW Value} (h : TB B w tb mb c D) (s : Step w w' F F') (h1 : ¬ F tb) (h2 : ¬ F mb) : TB B w' tb mb c D :=
  ⟨(cell_at (s.block tb h.lt h1)).trans h.c0, (cell_at (s.block tb h.lt h1)).trans h.c1, own_map_at h.map (s.block mb h.map.lt h2), Nat.lt_of_lt_of_le h.lt s.size, h.lo, h.ne⟩
def insI (n : Nn) (ms : List Nn) : List Nn := if isA n ms = true then ms else insM n ms
def insJ (n : Nn) (id : Int) (ms : List Nn) (ids : List Int) : List Int := if isA n ms = true then ids else ids.take (atI n ms) ++ id :: ids.drop (atI n ms)
def delI (n : Nn) (ms : List Nn) : List Nn := if isA n ms = true then delM n ms else ms
def delJ (n : Nn) (ms : List Nn) (ids : List Int) : List Int := if isA n ms = true then ids.take (atI n ms) ++ ids.drop (atI n ms + 1) else ids
theorem insI_len (n : Nn) (ms : List Nn) : (insI n ms).length ≤ ms.length + 1 := by
  have := atI_le n ms
  unfold insI
  split
  · omega
  · simp [insM]; omega
theorem delI_len (n : Nn) (ms : List Nn) : (delI n ms).length ≤ ms.length := by
  unfold delI
  split
  · simp [delM]; omega
  · omega
/-- the program's table holds these nodes -/
def PT (S : Nat → Prop) (B : Nat) (w : World) (tb mb c : Nat) (ms : List Nn) (ids : List Int) : Prop := ∃ D, TB B w tb mb c D ∧ MV S w D ms ids
theorem PT.step {S F F' : Nat → Prop} {B : Nat} {w w' : World} {tb mb c : Nat} {ms : List Nn} {ids : List Int} (h : PT S B w tb mb c ms ids) (s : Step w w' F F') (h1 : ¬ F tb) (h2 : ¬ F mb) (hS : ∀ k, S k → ¬ F k) : PT S B w' tb mb c ms ids := by
  obtain ⟨D, a, b⟩ := h
  exact ⟨D, a.step s h1 h2, b.keep s hS⟩
theorem PT.bk {S : Nat → Prop} {B : Nat} {w w' : World} {tb mb c : Nat} {ms : List Nn} {ids : List Int} (h : PT S B w tb mb c ms ids) (hb : BK w w') : PT S B w' tb mb c ms ids := h.step (Step.bk (F := fun _ => False) hb) (fun h => h) (fun h => h) (fun _ _ h => h)
theorem put25 (S : Nat → Prop) (B tb mb c : Nat) (ms : List Nn) (ids : List Int) (n : Nn) (hn : OKN n) (id : Int) (w : World) (ht : Tb w) (p : Option Addr) (d : Nat) (hp : Ra w p n.zs) (h : PT S B w tb mb c ms ids) (hB : B ≤ w.heap.size) (hc : c < maxLen) (hS : ∀ b, w.heap.size ≤ b → S b) (hmS : ¬ S mb) :
    Calls Tryd.prog 25 #[.pointer (some ⟨tb, 0, none⟩), .agg #[.int .i64 n.op, .int .i64 n.wd, .int .u64 n.vl, .string n.nm, .slice p n.zs.length d], .int .i64 id] w fun e w' => e = .returned (.bool (!isA n ms)) ∧ PT S B w' tb mb (c + 1) (insI n ms) (insJ n id ms ids) ∧ Step w w' (fun k => k = mb) (fun k => k = mb) := by
  obtain ⟨D, h1, h2⟩ := h
  have hin := h2.in hn
  have hv : (n.vl.toNat : Int) = n.vl := Int.toNat_of_nonneg hn.v0
  cases hi : isA n ms with
  | true =>
    rw [hi] at hin
    have := put_old B tb mb c D n.op n.wd n.vl.toNat n.nm p d n.zs id w ht (hn.nd hp) h1 hin
    rw [hv] at this
    refine this.mono ?_
    rintro e w' ⟨rfl, hb⟩
    refine ⟨rfl, ?_, Step.bk hb⟩
    unfold insI insJ
    rw [if_pos hi, if_pos hi]
    exact ⟨D, (h1.keep hb).more, h2.keep (Step.bk (F := fun _ => False) hb) (fun _ _ h => h)⟩
  | false =>
    rw [hi] at hin
    have := put_new B tb mb c D n.op n.wd n.vl.toNat n.nm p d n.zs id w ht (hn.nd hp) h1 hin hB hc
    rw [hv] at this
    refine this.mono ?_
    rintro e w' ⟨rfl, ⟨q, d', hT, hR⟩, hF⟩
    refine ⟨rfl, ?_, (Fr.step hF)⟩
    unfold insI insJ
    rw [if_neg (by rw [hi]; decide), if_neg (by rw [hi]; decide)]
    exact ⟨_, hT, (h2.keep (Fr.step hF) (fun k hk e => hmS (by rw [← e]; exact hk))).put hn hi (hR.mono (fun k hk => ⟨hS k hk.1, hk.2⟩))⟩
theorem del27 (S : Nat → Prop) (B tb mb c : Nat) (ms : List Nn) (ids : List Int) (n : Nn) (hn : OKN n) (w : World) (ht : Tb w) (p : Option Addr) (d : Nat) (hp : Ra w p n.zs) (h : PT S B w tb mb c ms ids) (hB : B ≤ w.heap.size) (hmS : ¬ S mb) :
    Calls Tryd.prog 27 #[.pointer (some ⟨tb, 0, none⟩), .agg #[.int .i64 n.op, .int .i64 n.wd, .int .u64 n.vl, .string n.nm, .slice p n.zs.length d]] w fun e w' => e = .returned (.bool (isA n ms)) ∧ PT S B w' tb mb c (delI n ms) (delJ n ms ids) ∧ Step w w' (fun k => k = mb) (fun k => k = mb) := by
  obtain ⟨D, h1, h2⟩ := h
  have hin := h2.in hn
  have hv : (n.vl.toNat : Int) = n.vl := Int.toNat_of_nonneg hn.v0
  have := del_any B tb mb c D n.op n.wd n.vl.toNat n.nm p d n.zs w ht (hn.nd hp) h1 hB
  rw [hv] at this
  refine this.mono ?_
  rintro e w' ⟨rfl, hT, hF⟩
  refine ⟨by rw [← hin]; rfl, ?_, (Fr.step hF)⟩
  have h3 := h2.keep (Fr.step hF) (fun k hk e => hmS (by rw [← e]; exact hk))
  unfold delI delJ
  cases hi : isA n ms with
  | true => rw [if_pos rfl, if_pos rfl]; exact ⟨_, hT, h3.del hn hi⟩
  | false =>
    rw [if_neg (by decide), if_neg (by decide)]
    exact ⟨_, hT, by have := h3.del_no hn hi; unfold kN keyB at this; rw [this]; exact h3⟩
theorem get29 (S : Nat → Prop) (B tb mb c : Nat) (ms : List Nn) (ids : List Int) (n : Nn) (hn : OKN n) (w : World) (ht : Tb w) (p : Option Addr) (d : Nat) (hp : Ra w p n.zs) (h : PT S B w tb mb c ms ids) :
    Calls Tryd.prog 29 #[.pointer (some ⟨tb, 0, none⟩), .agg #[.int .i64 n.op, .int .i64 n.wd, .int .u64 n.vl, .string n.nm, .slice p n.zs.length d]] w fun e w' => e = .returned (.tuple #[.int .i64 (getI n ms ids), .bool (isA n ms)]) ∧ BK w w' := by
  obtain ⟨D, h1, h2⟩ := h
  have hv : (n.vl.toNat : Int) = n.vl := Int.toNat_of_nonneg hn.v0
  have := get_any B tb mb c D n.op n.wd n.vl.toNat n.nm p d n.zs w ht (hn.nd hp) h1
  rw [hv] at this
  refine this.mono ?_
  rintro e w' ⟨id, rfl, ⟨o, dd, v, s, p', k, c', ha⟩, hb⟩
  refine ⟨?_, hb⟩
  have h9 := h2.get hn ha
  have h8 := h2.in hn
  unfold kN keyB at h8
  rw [h8, h9]
theorem len31 (S : Nat → Prop) (B tb mb c : Nat) (ms : List Nn) (ids : List Int) (w : World) (h : PT S B w tb mb c ms ids) : Calls Tryd.prog 31 #[.pointer (some ⟨tb, 0, none⟩)] w fun e w' => e = .returned (.int .i64 (ms.length : Int)) ∧ w = w' := by
  obtain ⟨D, h1, h2⟩ := h
  refine (len_any B tb mb c D w h1).mono ?_
  rintro e w' ⟨rfl, rfl⟩
  exact ⟨by rw [h2.size], rfl⟩
theorem rput26 (S : Nat → Prop) (ms : List Nn) (ids : List Int) (n : Nn) (id : Int) (hl : ms.length ≤ 1000) (hi : ids.length = ms.length) (okl : ∀ m ∈ ms, m.zs.length ≤ 1000) (hn : n.zs.length ≤ 1000) (w : World) (mb : Nat) (hT : RT S w mb ms ids) (p : Option Addr) (c : Nat) (hA : Ra w p n.zs) (hpc : p = none → c = 0) (hS : ∀ b, w.heap.size ≤ b → S b) :
    Calls Tryd.prog 26 #[.pointer (some ⟨mb, 0, none⟩), .agg #[.int .i64 n.op, .int .i64 n.wd, .int .u64 n.vl, .string n.nm, .slice p n.zs.length c], .int .i64 id] w fun e w' => e = .returned (.bool (!isA n ms)) ∧ RT S w' mb (insI n ms) (insJ n id ms ids) ∧ Step w w' (fun k => k = mb) (fun k => k = mb) := by
  unfold insI insJ
  cases hia : isA n ms with
  | true =>
    obtain ⟨q, cap, q', cap', ⟨c0, c1⟩, ⟨f0, f1⟩, ⟨hmb, hnS⟩, hM, hI⟩   := id' hT
    refine (rput26_old ms n id hl okl hn w mb q cap c0 hM.rowN p c hA hia).mono ?_
    rintro e w' ⟨rfl, hb⟩
    rw [if_pos rfl, if_pos rfl]
    exact ⟨rfl, hT.bk hb, Step.bk hb⟩
  | false =>
    rw [if_neg (by decide), if_neg (by decide)]
    exact rput26_new S ms ids n id hl hi okl hn w mb hT p c hA hpc hS hia
theorem rdel28 (S : Nat → Prop) (ms : List Nn) (ids : List Int) (n : Nn) (hl : ms.length ≤ 1000) (hi : ids.length = ms.length) (okl : ∀ m ∈ ms, m.zs.length ≤ 1000) (hn : n.zs.length ≤ 1000) (w : World) (mb : Nat) (hT : RT S w mb ms ids) (p : Option Addr) (c : Nat) (hA : Ra w p n.zs) (hS : ∀ b, w.heap.size ≤ b → S b) :
    Calls Tryd.prog 28 #[.pointer (some ⟨mb, 0, none⟩), .agg #[.int .i64 n.op, .int .i64 n.wd, .int .u64 n.vl, .string n.nm, .slice p n.zs.length c]] w fun e w' => e = .returned (.bool (isA n ms)) ∧ RT S w' mb (delI n ms) (delJ n ms ids) ∧ Step w w' (fun k => k = mb) (fun k => k = mb) := by
  unfold delI delJ
  cases hia : isA n ms with
  | true =>
    rw [if_pos rfl, if_pos rfl]
    exact rdel28_some S ms ids n hl hi okl hn w mb hT p c hA hS hia
  | false =>
    obtain ⟨q, cap, q', cap', ⟨c0, c1⟩, ⟨f0, f1⟩, ⟨hmb, hnS⟩, hM, hI⟩   := id' hT
    refine (rdel28_none ms n hl okl hn w mb q cap c0 hM.rowN p c hA hia).mono ?_
    rintro e w' ⟨rfl, hb⟩
    rw [if_neg (by decide), if_neg (by decide)]
    exact ⟨rfl, hT.bk hb, Step.bk hb⟩
end Go.Proofs.YtclefcjojlkcnaaDoor.V
