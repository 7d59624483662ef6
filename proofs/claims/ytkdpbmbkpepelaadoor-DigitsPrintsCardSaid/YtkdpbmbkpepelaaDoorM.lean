/- Lists of numbers: List of the program and of the reference, SameInts. -/
import Derived.Test.YtkdpbmbkpepelaaDoorL
namespace Go.Proofs.YtkdpbmbkpepelaaDoor
open Go.RowKit
set_option linter.unusedVariables false
set_option linter.unusedSimpArgs false
/-- the numbers behind a slice -/
def Ra (w : World) (p : Option Addr) (zs : List Int) : Prop := 0 < zs.length → ∃ b off, p = some ⟨b, off, none⟩ ∧ b < w.heap.size ∧ ∀ k, k < zs.length → w.cell? ⟨b, off + k, none⟩ = some (.int .i64 (zs.getD k 0))
theorem Ra.keep {w w' : World} {p : Option Addr} {zs : List Int} (h : Ra w p zs) (hb : BK w w') : Ra w' p zs := fun h0 => by
  have hb : Below w.heap.size w w' := hb
  obtain ⟨b, off, h1, h2, h3⟩ := h h0
  exact ⟨b, off, h1, Nat.lt_of_lt_of_le h2 hb.size, fun k hk => (hb.cell (p := ⟨b, off + k, none⟩) h2).trans (h3 k hk)⟩
theorem bc_append (l m : List UInt8) : Lib.byteCells (l ++ m) = Lib.byteCells l ++ Lib.byteCells m := by simp [Lib.byteCells]
/-- v holds the bytes l, in memory made since w0 -/
structure KS (w0 w : World) (v : Value) (n : Nat) (l : List UInt8) : Prop where
  row : w.ownsRow w0.heap.size 5 1 v n (Lib.byteCells l)
  len : l.length = n
  bel : BK w0 w
def KP (w0 : World) (l : List UInt8) (e : Ending) (w' : World) : Prop := ∃ v', e = .returned v' ∧ KS w0 w' v' l.length l
theorem int_any {w0 wc : World} {v : Value} {n : Nat} {l : List UInt8} (i : Int) (K : KS w0 wc v n l) (ht : Tb w0) (h0 : In64 i) (hn : n ≤ 100000000) :
    Calls Tryd.prog 36 #[v, .int .i64 i, .int .i64 10] wc (KP w0 (l ++ Lib.itoa i)) := by
  refine (Tryd.strconv_AppendInt_10 w0.heap.size n i h0.1 h0.2 v _ wc K.row (bk_size K.bel) (by omega) (fun w' hb => (Lib.tabBelow_of_tabIs ht.pow) w' (Below.trans (show Below w0.heap.size w0 wc from K.bel) hb))).mono ?_
  rintro e w' ⟨v', rfl, ho, hb, _⟩
  refine ⟨v', rfl, ?_, rfl, Below.trans (show Below w0.heap.size w0 wc from K.bel) hb⟩
  rw [bc_append, List.length_append, K.len]
  exact ho
theorem info5 : (Tryd.prog.info? 5).map (fun i => (i.zero, i.size, i.bytes)) = some (some (.int .u8 0), 1, 1) := by kernel_rfl
theorem info3 : (Tryd.prog.info? 3).map (fun i => (i.zero, i.size, i.bytes)) = some (some (.int .i64 0), 1, 8) := by kernel_rfl
theorem conv_any {w0 w : World} {v : Value} {n : Nat} {l : List UInt8} (K : KS w0 w v n l) : (convert 57 9 v).run Tryd.prog w = .ok (.string ⟨l.toArray⟩) w := by
  obtain ⟨p, c, rfl⟩ := own_shape K.row
  by_cases h0 : 0 < n
  · obtain ⟨g, c', h1, _⟩ := World.ownsRow.form K.row h0
    simp at h1
    obtain ⟨rfl, rfl⟩ := h1
    have := run_convert_bytes_back (P := Tryd.prog) w 57 9 5 ⟨g, 0, none⟩ c l Tryd.underlying57 Tryd.underlying5 Tryd.underlying9 (fun j hj => World.ownsRow.cells K.row (g := g) rfl j _ (by simp [Lib.byteCells, hj]))
    rw [K.len] at this
    exact this
  · obtain rfl : n = 0 := by omega
    obtain rfl : l = [] := List.eq_nil_of_length_eq_zero K.len
    cases p with
    | none => exact run_convert_bytes_nil w 57 5 Tryd.underlying57 Tryd.underlying5 0 c 9 Tryd.underlying9
    | some a => exact run_convert_bytes_back (P := Tryd.prog) w 57 9 5 a c [] Tryd.underlying57 Tryd.underlying5 Tryd.underlying9 (fun j hj => by simp at hj)
theorem itoa_b {z : Int} (h : In64 z) : (Lib.itoa z).length ≤ 21 := Lib.itoa_length_le z h.1 h.2
theorem lst_take (zs : List Int) (k : Nat) (h : k < zs.length) : lst (zs.take (k + 1)) = if k = 0 then Lib.itoa (zs.getD k 0) else lst (zs.take k) ++ 32 :: Lib.itoa (zs.getD k 0) := by
  rw [List.take_succ_eq_append_getElem h, lst_snoc, List.getD_eq_getElem?_getD, List.getElem?_eq_getElem h]
  by_cases hk : k = 0
  · subst hk; simp
  · rw [if_neg hk, if_neg (by intro e; have : (zs.take k).length = 0 := by rw [e]; rfl
                              rw [List.length_take] at this; omega)]
    rfl
theorem tl32_b : ∀ (zs : List Int), (∀ z ∈ zs, In64 z) → (tl32 (zs.map Lib.itoa)).length ≤ 22 * zs.length
  | [], _ => by simp [tl32]
  | z :: l, h => by
    have := itoa_b (h z (by simp))
    have := tl32_b l (fun y hy => h y (by simp [hy]))
    simp only [List.map_cons, tl32, List.length_append, List.length_cons]; omega
theorem lst_b (zs : List Int) (h : ∀ z ∈ zs, In64 z) : (lst zs).length ≤ 22 * zs.length := by
  cases zs with
  | nil => simp [lst, jn]
  | cons z l =>
    have := itoa_b (h z (by simp))
    have := tl32_b l (fun y hy => h y (by simp [hy]))
    show (Lib.itoa z ++ tl32 (l.map Lib.itoa)).length ≤ _
    simp only [List.length_append, List.length_cons]; omega
theorem in_take {zs : List Int} (h : ∀ z ∈ zs, In64 z) (k : Nat) : ∀ z ∈ zs.take k, In64 z := fun z hz => h z (List.mem_of_mem_take hz)
theorem in_get {zs : List Int} (h : ∀ z ∈ zs, In64 z) (k : Nat) (hk : k < zs.length) : In64 (zs.getD k 0) := by
  rw [List.getD_eq_getElem?_getD, List.getElem?_eq_getElem hk]
  exact h _ (List.getElem_mem hk)
set_option maxRecDepth 100000 in
set_option maxHeartbeats 2000000 in
theorem list22 (p : Option Addr) (c : Nat) (zs : List Int) (w : World) (ht : Tb w) (hr : Ra w p zs) (hl : zs.length ≤ 3000) (hz : ∀ z ∈ zs, In64 z) :
    Calls Tryd.prog 22 #[.slice p zs.length c] w fun e w' => e = .returned (.string ⟨(lst zs).toArray⟩) ∧ BK w w' := by
  obtain ⟨i5, hi5, hz5, hs5, hb5⟩ := info_parts info5
  have HT := Lib.hid ht
  have HR := Lib.hid (fun wc (hb : BK w wc) => hr.keep hb)
  have HZ := Lib.hid hz
  clear ht hr hz
  go_enter Tryd.func22, Tryd.ntmps22
  go_wp2_with fail
  go_loopw [3, 8] (fun v x wr => ∃ k : Nat, k ≤ zs.length ∧ x = .int .i64 k ∧ KS w wr v (lst (zs.take k)).length (lst (zs.take k))) (fun _ x _ => zs.length - (intOf x).toNat)
  case atStart => exact ⟨0, Nat.zero_le _, rfl, World.ownsRow_nil _ _ _ _, rfl, BK.refl _⟩
  case round =>
    obtain ⟨k, hk, rfl, hks⟩ := hrel
    have HK := Lib.hid hks
    have hlb := lst_b (zs.take k) (in_take HZ.out k)
    have hlt1 : (zs.take k).length ≤ 3000 := by simp; omega
    by_cases hlt : k < zs.length
    · obtain ⟨b, off, rfl, hlb2, hcell⟩ := (HR.out _ hks.bel) (by omega)
      have HC := Lib.hid (fun wc (hb : BK wr wc) => cellBk (hcell k hlt) hb)
      have dd := hcell k hlt
      have HZ1 := Lib.hid (in_get HZ.out k hlt)
      have hsn := lst_take zs k hlt
      have HIB := Lib.hid (itoa_b HZ1.out)
      clear hcell hks
      generalize zs.getD k 0 = z at dd HC HZ1 hsn HIB
      by_cases hk0 : k = 0
      · subst hk0
        rw [if_pos rfl] at hsn
        rw [Nat.add_zero] at dd
        have HSN := Lib.hid hsn
        have HK0 := Lib.hid (show KS w wr _ 0 [] from HK.out)
        clear hsn
        go_wp2_with fail
        refine (int_any z HK0.out HT.out HZ1.out (by omega)).mono ?_
        rintro e w2 ⟨v2, rfl, k2⟩
        have K2 := Lib.hid (show KS w w2 v2 (lst (zs.take (0 + 1))).length (lst (zs.take (0 + 1))) by rw [HSN.out]; exact k2)
        clear k2 dd
        go_wp2_with fail
        go_roundw
        case rel => exact ⟨1, by omega, by go_num, K2.out⟩
        case measure => simp [intOf]; omega
      · rw [if_neg hk0] at hsn
        have HSN := Lib.hid hsn
        have ik0 : (0 : Int) < (k : Int) := by omega
        obtain ⟨L1, hL1⟩ : ∃ x, x = lst (zs.take k) := ⟨_, rfl⟩
        rw [← hL1] at HK hlb HSN
        clear hsn hL1
        have hl1 : L1.length ≤ 66000 := by omega
        obtain ⟨m1, hm1⟩ : ∃ x, x = L1.length := ⟨_, rfl⟩
        rw [← hm1] at HK hl1
        have HM := Lib.hid hm1
        clear hlb hm1
        go_wp2_with (at_builtin; go_must (refine wpList_append_lies _ rfl _ _ 57 rfl w.heap.size 5 i5 _ 1 1 Tryd.underlying57 hi5 hz5 hs5 hb5 rfl (by omega) _ m1 _ rfl (HK.out.row.alloc _) ⟨wr.heap.size, 0, none⟩ 1 1 [.int .u8 32] rfl rfl (World.news_of_block (cs := #[.int .u8 32]) (t := 5) (fr := (0, 0)) (heap_alloc_new wr _)) (by simp [Value.oneCell']) (by omega) (by unfold maxLen; omega) (by omega) (by have := bk_size HK.out.bel; simp; omega) (wr.heap.size + 1) (by simp) ?_))
        intro g9 c9 w9 hown hgrow hat hlt9
        have kA : KS w w9 (.slice (some ⟨g9, 0, none⟩) (m1 + 1) c9) (m1 + 1) (L1 ++ [32]) := by
          have hm : (L1 ++ [32]).length = m1 + 1 := by have := HM.out; simp; omega
          have hb : Below w.heap.size w wr := HK.out.bel
          exact ⟨by rw [bc_append]; exact hown, hm, (hb.alloc hb.size _).grown hgrow (by have := hb.size; simp; omega) (fun r hr => (HK.out.row.lt r hr).1)⟩
        have KA := Lib.hid kA
        clear hown hgrow hat hlt9 kA dd
        go_wp2_with fail
        refine (int_any z KA.out HT.out HZ1.out (by omega)).mono ?_
        rintro e w2 ⟨v2, rfl, k2⟩
        have K2 := Lib.hid (show KS w w2 v2 (lst (zs.take (k + 1))).length (lst (zs.take (k + 1))) by rw [HSN.out, show L1 ++ 32 :: Lib.itoa z = L1 ++ [32] ++ Lib.itoa z by simp]; exact k2)
        clear k2
        go_wp2_with fail
        go_roundw
        case rel => exact ⟨k + 1, by omega, by go_num, K2.out⟩
        case measure => simp [intOf]; omega
    · obtain rfl : k = zs.length := by omega
      have KF := Lib.hid (show KS w wr _ (lst zs).length (lst zs) by have := hks; rwa [List.take_length] at this)
      clear hks
      obtain ⟨p', c', rfl⟩ := own_shape KF.out.row
      have hconv := conv_any KF.out
      have HB := Lib.hid KF.out.bel
      clear KF HK
      go_wp2_with fail
      go_ret
      exact ⟨rfl, HB.out⟩
end Go.Proofs.YtkdpbmbkpepelaaDoor
