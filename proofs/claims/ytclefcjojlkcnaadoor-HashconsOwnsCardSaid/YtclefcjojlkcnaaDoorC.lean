/- The key of a node. -/
import Derived.Test.YtclefcjojlkcnaaDoorB
namespace Go.Proofs.YtclefcjojlkcnaaDoor
open Go.RowKit
set_option linter.unusedVariables false
set_option linter.unusedSimpArgs false
/-- append of a text to a slice of the call's own, as one step of a region that draws its order -/
theorem step_append_str {P : Program} {ops : Array Oper} {o : Oper} {a : Act} {w : World} {K : Act → World → Prop} {Q : Exit → Act → World → Prop} {E : Prop}
    (hg : o.guard = none) (sl x : Operand) (t u : TypeId) (hop : o.op = .call { callee := .builtin .append, args := #[sl, x], argTypes := #[t, u] })
    (base : Nat) (e : TypeId) (i : TypeInfo) (ht : P.underlying t = some (.slice e)) (hu : P.underlying u = some .string) (hi : P.info? e = some i) (hz : i.zero = some (.int .u8 0))
    (hsize : i.size = 1) (hby : i.bytes = 1)
    (v : Value) (n : Nat) (xs : List Value) (hs : a.eval sl = v) (hown : w.ownsRow base e 1 v n xs) (s : ByteArray) (hx : a.eval x = .string s)
    (h63 : n + s.size ≤ maxLen) (hbytes : n + s.size ≤ 140737488355328) (hbase : base ≤ w.heap.size)
    (h : ∀ v' w', w'.ownsRow base e 1 v' (n + s.size) (xs ++ Lib.strCells s) → w.grownBy w' v.ownBlock → (v' = .slice none 0 0 ↔ v = .slice none 0 0 ∧ s.size = 0) → K (a.put o.dst v') w') :
    if Region.wanted o (yielded ops a.tmps) = true then Oper.wp P o a w K Q else E := by
  have hw : Region.wanted o (yielded ops a.tmps) = true := by simp [Region.wanted, hg]
  rw [if_pos hw]
  obtain ⟨v', w', hr, h2, h3, h4⟩ := Lib.run_append_own_string (P := P) w base t u o.type e i ht hu hi hz hsize hby v n xs hown s h63 hbytes hbase
  unfold Oper.wp
  simp [execOp, hop, resolve, invoke, builtin, hs, hx, hr, Result.andThen]
  exact h v' w' h2 h3 h4
def In64 (i : Int) : Prop := -9223372036854775808 ≤ i ∧ i ≤ 9223372036854775807
def flat (zs : List Int) (k : Nat) : List UInt8 := (List.range k).flatMap fun j => 32 :: Lib.itoa (zs.getD j 0)
theorem flat_succ (zs : List Int) (k : Nat) : flat zs (k + 1) = flat zs k ++ [32] ++ Lib.itoa (zs.getD k 0) := by
  unfold flat; rw [List.range_succ, List.flatMap_append]; simp
def headL (op wd : Int) (vl n : Nat) : List UInt8 := Lib.itoa op ++ [32] ++ Lib.itoa wd ++ [32] ++ Lib.decDigits vl ++ [32] ++ Lib.itoa n
def keyL (op wd : Int) (vl : Nat) (name : ByteArray) (zs : List Int) : List UInt8 := headL op wd vl zs.length ++ flat zs zs.length ++ [32] ++ name.data.toList
/-- the numbers behind a slice -/
def Ra (w : World) (p : Option Addr) (zs : List Int) : Prop := 0 < zs.length → ∃ b off, p = some ⟨b, off, none⟩ ∧ b < w.heap.size ∧ ∀ k, k < zs.length → w.cell? ⟨b, off + k, none⟩ = some (.int .i64 (zs.getD k 0))
theorem Ra.keep {w w' : World} {p : Option Addr} {zs : List Int} (h : Ra w p zs) (hb : BK w w') : Ra w' p zs := fun h0 => by
  have hb : Below w.heap.size w w' := hb
  obtain ⟨b, off, h1, h2, h3⟩ := h h0
  exact ⟨b, off, h1, Nat.lt_of_lt_of_le h2 hb.size, fun k hk => (hb.cell (p := ⟨b, off + k, none⟩) h2).trans (h3 k hk)⟩
/-- a node that may be written as a key -/
structure Nd (w : World) (op wd : Int) (vl : Nat) (name : ByteArray) (p : Option Addr) (zs : List Int) : Prop where
  o : In64 op
  d : In64 wd
  v : vl < 18446744073709551616
  s : name.size ≤ 1000000
  l : zs.length ≤ 1000
  z : ∀ k, In64 (zs.getD k 0)
  r : Ra w p zs
theorem Nd.keep {w w' : World} {op wd : Int} {vl : Nat} {name : ByteArray} {p : Option Addr} {zs : List Int} (h : Nd w op wd vl name p zs) (hb : BK w w') : Nd w' op wd vl name p zs := ⟨h.o, h.d, h.v, h.s, h.l, h.z, h.r.keep hb⟩
/-- the five cells of a boxed node -/
def B5 (w : World) (b : Nat) (x0 x1 x2 x3 x4 : Value) : Prop := w.cell? ⟨b, 0, none⟩ = some x0 ∧ w.cell? ⟨b, 1, none⟩ = some x1 ∧ w.cell? ⟨b, 2, none⟩ = some x2 ∧ w.cell? ⟨b, 3, none⟩ = some x3 ∧ w.cell? ⟨b, 4, none⟩ = some x4
theorem b5_new (w : World) (x0 x1 x2 x3 x4 : Value) (T : Nat) : B5 (w.alloc (.cells #[x0, x1, x2, x3, x4] T)) w.heap.size x0 x1 x2 x3 x4 := by
  refine ⟨?_, ?_, ?_, ?_, ?_⟩ <;> (rw [World.cell?_alloc_new]; rfl)
theorem B5.keep {w w' : World} {b : Nat} {x0 x1 x2 x3 x4 : Value} (h : B5 w b x0 x1 x2 x3 x4) (hb : BK w w') (hlt : b < w.heap.size) : B5 w' b x0 x1 x2 x3 x4 := by
  have hb : Below w.heap.size w w' := hb
  obtain ⟨a0, a1, a2, a3, a4⟩ := h
  exact ⟨(hb.cell (p := ⟨b, 0, none⟩) hlt).trans a0, (hb.cell (p := ⟨b, 1, none⟩) hlt).trans a1, (hb.cell (p := ⟨b, 2, none⟩) hlt).trans a2, (hb.cell (p := ⟨b, 3, none⟩) hlt).trans a3, (hb.cell (p := ⟨b, 4, none⟩) hlt).trans a4⟩
theorem KS.grow' {w0 wc w9 : World} {v v9 : Value} {n m : Nat} {l l' : List UInt8} {o : Obj} (K : KS w0 wc v n l) (hg : (wc.alloc o).grownBy w9 v.ownBlock) (hr : w9.ownsRow w0.heap.size 5 1 v9 m (Lib.byteCells l')) (hl : l'.length = m) : KS w0 w9 v9 m l' := by
  have hb : Below w0.heap.size w0 wc := K.bel
  exact ⟨hr, hl, (hb.alloc hb.size o).grown hg (by have := hb.size; show _ ≤ (wc.alloc o).heap.size; simp; omega) (fun r hr => (K.row.lt r hr).1)⟩
theorem grow7 {w0 wc w9 : World} {v : Value} {n : Nat} {l : List UInt8} (K : KS w0 wc v n l) (hg : wc.grownBy w9 v.ownBlock) : BK w0 w9 := by
  have hb : Below w0.heap.size w0 wc := K.bel
  exact hb.grown hg hb.size (fun r hr => (K.row.lt r hr).1)
theorem itoa_b (i : Int) (h : In64 i) : (Lib.itoa i).length ≤ 21 := Lib.itoa_length_le i h.1 h.2
theorem flat_b (zs : List Int) (h : ∀ k, In64 (zs.getD k 0)) (k : Nat) : (flat zs k).length ≤ 22 * k := by
  induction k with
  | zero => simp [flat]
  | succ k ih =>
    rw [flat_succ]
    have := itoa_b _ (h k)
    simp only [List.length_append, List.length_cons, List.length_nil]; omega
set_option maxRecDepth 100000 in
set_option maxHeartbeats 8000000 in
theorem key_any (op wd : Int) (vl : Nat) (name : ByteArray) (p : Option Addr) (c : Nat) (zs : List Int) (w : World) (ht : Tb w) (h : Nd w op wd vl name p zs) :
    Calls Tryd.prog 17 #[.agg #[.int .i64 op, .int .i64 wd, .int .u64 vl, .string name, .slice p zs.length c]] w fun e w' => e = .returned (.string ⟨(keyL op wd vl name zs).toArray⟩) ∧ BK w w' := by
  obtain ⟨i5, hi5, hz5, hs5, hb5⟩ := info_parts info5
  have hbox := b5_new w (.int .i64 op) (.int .i64 wd) (.int .u64 vl) (.string name) (.slice p zs.length c) 26
  have ht0 := ht.keep (bk_alloc (BK.refl w) (.cells #[.int .i64 op, .int .i64 wd, .int .u64 vl, .string name, .slice p zs.length c] 26))
  have hn0 := h.keep (bk_alloc (BK.refl w) (.cells #[.int .i64 op, .int .i64 wd, .int .u64 vl, .string name, .slice p zs.length c] 26))
  have hk0 := bk_alloc (BK.refl w) (.cells #[.int .i64 op, .int .i64 wd, .int .u64 vl, .string name, .slice p zs.length c] 26)
  have hlt0 : w.heap.size < (w.alloc (.cells #[.int .i64 op, .int .i64 wd, .int .u64 vl, .string name, .slice p zs.length c] 26)).heap.size := by simp
  have io := itoa_b _ h.o
  have id := itoa_b _ h.d
  have iv := dec_len vl h.v
  have il := itoa_b (zs.length : Int) ⟨by have := h.l; omega, by have := h.l; omega⟩
  have hzl := h.l
  clear ht h
  go_enter Tryd.func17, Tryd.ntmps17
  go_wp2_with fail
  generalize w.alloc (.cells #[.int .i64 op, .int .i64 wd, .int .u64 vl, .string name, .slice p zs.length c] 26) = w0 at hbox ht0 hn0 hk0 hlt0 ⊢
  have HT := Lib.hid ht0
  have HN := Lib.hid hn0
  have HK0 := Lib.hid hk0
  have KC := Lib.hid (fun wc (hb : BK w0 wc) => hbox.keep hb hlt0)
  clear ht0 hn0 hk0 hbox
  refine (int_any (n := 0) (l := []) op ⟨World.ownsRow_nil _ _ _ _, rfl, BK.refl w0⟩ HT.out HN.out.o.1 HN.out.o.2 (by omega)).mono ?_
  rintro e w1 ⟨v1, rfl, k1⟩
  obtain ⟨L1, hL1⟩ : ∃ x, x = [] ++ Lib.itoa op := ⟨_, rfl⟩
  rw [← hL1] at k1
  have n1 : L1.length ≤ 30 := by rw [hL1]; simp; omega
  have e1 := Lib.hid hL1
  obtain ⟨m1, hm1⟩ : ∃ x, x = L1.length := ⟨_, rfl⟩
  rw [← hm1] at k1 n1
  have K1 := Lib.hid k1
  have hb1 := k1.bel
  obtain ⟨_, q1, _, _, _⟩ := KC.out _ k1.bel
  clear k1 hL1 hm1
  go_wp2_with fail
  go_region_held3 (fun w' => w'.cell? ⟨w.heap.size, 1, none⟩ = some (.int .i64 wd))
    (first | exact (KC.out _ (by repeat (first | assumption | refine bk_drew ?_ | refine bk_alloc ?_ _))).2.1 | (go_keep; done))
    ((first | (refine step_append_lies _ (by rfl) _ _ _ (by rfl) w0.heap.size 5 i5 _ 1 1 Tryd.underlying66 hi5 hz5 hs5 hb5 rfl (by omega) _ m1 _ (by rfl) ((K1.out.row.alloc _).drew) ⟨w1.heap.size, 0, none⟩ 1 1 [.int .u8 32] (by rfl) (by rfl) (World.news_of_block (cs := #[.int .u8 32]) (t := 5) (fr := (0, 0)) (heap_alloc_new w1 _)) (by simp [Value.oneCell']) (by omega) (by unfold maxLen; omega) (by omega) (by have := bk_size K1.out.bel; simp; omega) (w1.heap.size + 1) (by simp) ?_; intro gA cA xA hown hgrow hat hlt; have kA := K1.out.grow (l' := L1 ++ [32]) (m := m1 + 1) hgrow (by rw [bc_append]; exact hown) (by have := K1.out.len; (try simp only [List.length_append] at this); simp only [List.length_append, List.length_cons, List.length_nil]; omega); have hkA := kA.bel; clear hown hgrow hat hlt) | (go_at_call 42; refine (int_any _ kA HT.out HN.out.d.1 HN.out.d.2 (by omega)).mono ?_; rintro e w2 ⟨vw2, rfl, k2⟩; have hkw2 := k2.bel)))
  all_goals clear q1 hb1
  obtain ⟨L2, hL2⟩ : ∃ x, x = L1 ++ [32] ++ Lib.itoa wd := ⟨_, rfl⟩
  rw [← hL2] at k2
  have n2 : L2.length ≤ 60 := by have := K1.out.len; rw [hL2]; simp; omega
  have e2 := Lib.hid hL2
  obtain ⟨m2, hm2⟩ : ∃ x, x = L2.length := ⟨_, rfl⟩
  rw [← hm2] at k2 n2
  have K2 := Lib.hid k2
  have hb2 := k2.bel
  obtain ⟨_, _, q2, _, _⟩ := KC.out _ k2.bel
  clear k2 hL2 hm2 kA hkA hkw2
  go_wp2_with fail
  go_region_held3 (fun w' => w'.cell? ⟨w.heap.size, 2, none⟩ = some (.int .u64 vl))
    (first | exact (KC.out _ (by repeat (first | assumption | refine bk_drew ?_ | refine bk_alloc ?_ _))).2.2.1 | (go_keep; done))
    ((first | (refine step_append_lies _ (by rfl) _ _ _ (by rfl) w0.heap.size 5 i5 _ 1 1 Tryd.underlying66 hi5 hz5 hs5 hb5 rfl (by omega) _ m2 _ (by rfl) ((K2.out.row.alloc _).drew) ⟨w2.heap.size, 0, none⟩ 1 1 [.int .u8 32] (by rfl) (by rfl) (World.news_of_block (cs := #[.int .u8 32]) (t := 5) (fr := (0, 0)) (heap_alloc_new w2 _)) (by simp [Value.oneCell']) (by omega) (by unfold maxLen; omega) (by omega) (by have := bk_size K2.out.bel; simp; omega) (w2.heap.size + 1) (by simp) ?_; intro gB cB xB hown hgrow hat hlt; have kB := K2.out.grow (l' := L2 ++ [32]) (m := m2 + 1) hgrow (by rw [bc_append]; exact hown) (by have := K2.out.len; (try simp only [List.length_append] at this); simp only [List.length_append, List.length_cons, List.length_nil]; omega); have hkB := kB.bel; clear hown hgrow hat hlt) | (go_at_call 43; refine (uint_any _ kB HT.out HN.out.v (by omega)).mono ?_; rintro e w3 ⟨vw3, rfl, k3⟩; have hkw3 := k3.bel)))
  all_goals clear q2 hb2
  obtain ⟨L3, hL3⟩ : ∃ x, x = L2 ++ [32] ++ Lib.decDigits vl := ⟨_, rfl⟩
  rw [← hL3] at k3
  have n3 : L3.length ≤ 90 := by have := K2.out.len; rw [hL3]; simp; omega
  have e3 := Lib.hid hL3
  obtain ⟨m3, hm3⟩ : ∃ x, x = L3.length := ⟨_, rfl⟩
  rw [← hm3] at k3 n3
  have K3 := Lib.hid k3
  have hb3 := k3.bel
  obtain ⟨_, _, _, _, q3⟩ := KC.out _ k3.bel
  clear k3 hL3 hm3 kB hkB hkw3
  go_wp2_with fail
  go_region_held3 (fun w' => w'.cell? ⟨w.heap.size, 4, none⟩ = some (.slice p zs.length c))
    (first | exact (KC.out _ (by repeat (first | assumption | refine bk_drew ?_ | refine bk_alloc ?_ _))).2.2.2.2 | (go_keep; done))
    ((first | (refine step_append_lies _ (by rfl) _ _ _ (by rfl) w0.heap.size 5 i5 _ 1 1 Tryd.underlying66 hi5 hz5 hs5 hb5 rfl (by omega) _ m3 _ (by rfl) ((K3.out.row.alloc _).drew) ⟨w3.heap.size, 0, none⟩ 1 1 [.int .u8 32] (by rfl) (by rfl) (World.news_of_block (cs := #[.int .u8 32]) (t := 5) (fr := (0, 0)) (heap_alloc_new w3 _)) (by simp [Value.oneCell']) (by omega) (by unfold maxLen; omega) (by omega) (by have := bk_size K3.out.bel; simp; omega) (w3.heap.size + 1) (by simp) ?_; intro gC cC xC hown hgrow hat hlt; have kC := K3.out.grow (l' := L3 ++ [32]) (m := m3 + 1) hgrow (by rw [bc_append]; exact hown) (by have := K3.out.len; (try simp only [List.length_append] at this); simp only [List.length_append, List.length_cons, List.length_nil]; omega); have hkC := kC.bel; clear hown hgrow hat hlt) | (go_at_call 42; refine (int_any _ kC HT.out (by omega) (by omega) (by omega)).mono ?_; rintro e w4 ⟨vw4, rfl, k4⟩; have hkw4 := k4.bel)))
  all_goals clear q3 hb3
  obtain ⟨L4, hL4⟩ : ∃ x, x = L3 ++ [32] ++ Lib.itoa (zs.length : Int) := ⟨_, rfl⟩
  rw [← hL4] at k4
  have n4 : L4.length ≤ 120 := by have := K3.out.len; rw [hL4]; simp; omega
  have e4 := Lib.hid hL4
  obtain ⟨m4, hm4⟩ : ∃ x, x = L4.length := ⟨_, rfl⟩
  rw [← hm4] at k4 n4
  have K4 := Lib.hid k4
  obtain ⟨_, _, _, _, q4⟩ := KC.out _ k4.bel
  clear k4 hL4 hm4 kC hkC hkw4
  go_wp2_with fail
  go_loopw [3, 31] (fun v x wr => ∃ k m : Nat, k ≤ zs.length ∧ x = .int .i64 k ∧ KS w0 wr v m (L4 ++ flat zs k)) (fun _ x _ => zs.length - (intOf x).toNat)
  case atStart => exact ⟨0, m4, Nat.zero_le _, rfl, by simpa [flat] using K4.out⟩
  case round =>
    obtain ⟨k, m, hk, rfl, hK⟩ := hrel
    have hfb := flat_b zs HN.out.z k
    have h4l := K4.out.len
    have hml : m ≤ 30000 := by have := hK.len; simp at this; omega
    clear q4
    by_cases hlt : k < zs.length
    · obtain ⟨b, off, rfl, hlb, hcell⟩ := HN.out.r (by omega)
      have d := ((show Below w0.heap.size w0 wr from hK.bel).cell (p := ⟨b, off + k, none⟩) hlb).trans (hcell k hlt)
      have hz := HN.out.z k
      have hfs := flat_succ zs k
      clear hcell
      generalize zs.getD k 0 = z at d hz hfs
      have HZ := Lib.hid hz
      have HF := Lib.hid hfs
      have KK := Lib.hid hK
      have hsz := bk_size hK.bel
      clear hK hz hfs h4l hfb
      go_wp2_with (at_builtin; go_must (refine wpList_append_lies _ rfl _ _ 66 rfl w0.heap.size 5 i5 (.int .u8 0) 1 1 Tryd.underlying66 hi5 hz5 hs5 hb5 rfl (by decide) _ m _ rfl (KK.out.row.alloc _) ⟨wr.heap.size, 0, none⟩ 1 1 [.int .u8 32] rfl rfl (World.news_of_block (cs := #[.int .u8 32]) (t := 5) (fr := (0, 0)) (heap_alloc_new wr _)) (by simp [Value.oneCell']) (by decide) (by unfold maxLen; omega) (by omega) (by simp; omega) (wr.heap.size + 1) (by simp) ?_))
      intro g9 c9 x9 hown hgrow hat hlt9
      have k9 := KK.out.grow' (l' := L4 ++ flat zs k ++ [32]) (m := m + 1) hgrow (by rw [bc_append]; exact hown) (by have := KK.out.len; simp at this ⊢; omega)
      have K9 := Lib.hid k9
      clear hown hgrow hat hlt9 k9 d
      go_wp2_with fail
      refine (int_any z K9.out HT.out HZ.out.1 HZ.out.2 (by omega)).mono ?_
      rintro e w5 ⟨v5, rfl, k5⟩
      rw [show L4 ++ flat zs k ++ [32] ++ Lib.itoa z = L4 ++ flat zs (k + 1) by rw [HF.out]; simp] at k5
      have K5 := Lib.hid k5
      clear k5
      go_wp2_with fail
      go_roundw
      case rel => exact ⟨k + 1, _, by omega, by go_num, K5.out⟩
      case measure => simp [intOf]; omega
    · obtain rfl : k = zs.length := by omega
      have q3 := (KC.out _ hK.bel).2.2.2.1
      have hbk := hK.bel
      have KK := Lib.hid hK
      have hnm := HN.out.s
      clear hK
      go_wp2_with fail
      go_region_held3 (fun w' => w'.cell? ⟨w.heap.size, 3, none⟩ = some (.string name))
        (first | exact (KC.out _ (by repeat (first | assumption | refine bk_drew ?_ | refine bk_alloc ?_ _))).2.2.2.1 | (go_keep; done))
        ((first | (refine step_append_lies _ (by rfl) _ _ _ (by rfl) w0.heap.size 5 i5 _ 1 1 Tryd.underlying66 hi5 hz5 hs5 hb5 rfl (by omega) _ m _ (by rfl) ((KK.out.row.alloc _).drew) ⟨wr.heap.size, 0, none⟩ 1 1 [.int .u8 32] (by rfl) (by rfl) (World.news_of_block (cs := #[.int .u8 32]) (t := 5) (fr := (0, 0)) (heap_alloc_new wr _)) (by simp [Value.oneCell']) (by omega) (by unfold maxLen; omega) (by omega) (by have := bk_size KK.out.bel; simp; omega) (wr.heap.size + 1) (by simp) ?_; intro gD cD xD hown hgrow hat hlt; have kD := KK.out.grow (l' := (L4 ++ flat zs zs.length) ++ [32]) (m := m + 1) hgrow (by rw [bc_append]; exact hown) (by have := KK.out.len; (try simp only [List.length_append] at this); simp only [List.length_append, List.length_cons, List.length_nil]; omega); have hkD := kD.bel; clear hown hgrow hat hlt) | (refine step_append_str (by rfl) _ _ _ _ (by rfl) w0.heap.size 5 i5 Tryd.underlying66 Tryd.underlying9 hi5 hz5 hs5 hb5 _ (m + 1) _ (by rfl) kD.row name (by rfl) (by unfold maxLen; omega) (by omega) (bk_size kD.bel) ?_; intro v7 w7 hown7 hgrow7 hiff7; have hk7 := grow7 kD hgrow7)))
      clear q3 hbk kD hkD hiff7 hgrow7
      have hown8 : w7.ownsRow w0.heap.size 5 1 v7 (m + 1 + name.size) (Lib.byteCells (L4 ++ flat zs zs.length ++ [32] ++ name.data.toList)) := by rw [bc_append]; exact hown7
      obtain ⟨KF, hKF⟩ : ∃ x, x = L4 ++ flat zs zs.length ++ [32] ++ name.data.toList := ⟨_, rfl⟩
      rw [← hKF] at hown8
      have hlen : KF.length = m + 1 + name.size := by have := hown8.1; simpa [Lib.byteCells] using this
      clear hown7
      obtain ⟨g7, c7, rfl, _⟩ := World.ownsRow.form hown8 (by omega)
      have hconv := run_convert_bytes_back (P := Tryd.prog) w7 66 9 5 ⟨g7, 0, none⟩ c7 KF Tryd.underlying66 Tryd.underlying5 Tryd.underlying9 (fun j hj => World.ownsRow.cells hown8 (g := g7) rfl j _ (by simp [Lib.byteCells, hj]))
      rw [hlen] at hconv
      have hres : KF = keyL op wd vl name zs := by rw [hKF, e4.out, e3.out, e2.out, e1.out]; simp [keyL, headL]
      have HR := Lib.hid hres
      have HK7 := Lib.hid (bk_tr HK0.out hk7)
      clear hown8 hlen hres hk7 hKF
      go_wp2_with fail
      go_ret
      exact ⟨by rw [HR.out]; rfl, HK7.out⟩
end Go.Proofs.YtclefcjojlkcnaaDoor
