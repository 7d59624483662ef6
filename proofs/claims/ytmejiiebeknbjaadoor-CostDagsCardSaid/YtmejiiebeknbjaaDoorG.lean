/- Numbers as a text. -/
import Derived.Test.YtmejiiebeknbjaaDoorF
import Derived.Laws.BytesArg
namespace Go.Proofs.YtmejiiebeknbjaaDoor
open Go.RowKit Go.Maps
set_option linter.unusedVariables false
set_option linter.unusedSimpArgs false
/-- the numbers behind a slice -/
def Ra (w : World) (p : Option Addr) (zs : List Int) : Prop := 0 < zs.length → ∃ b off, p = some ⟨b, off, none⟩ ∧ b < w.heap.size ∧ ∀ k, k < zs.length → w.cell? ⟨b, off + k, none⟩ = some (.int .i64 (zs.getD k 0))
theorem Ra.keep {w w' : World} {p : Option Addr} {zs : List Int} (h : Ra w p zs) (hb : BK w w') : Ra w' p zs := fun h0 => by
  have hb : Below w.heap.size w w' := hb
  obtain ⟨b, off, h1, h2, h3⟩ := h h0
  exact ⟨b, off, h1, Nat.lt_of_lt_of_le h2 hb.size, fun k hk => (hb.cell (p := ⟨b, off + k, none⟩) h2).trans (h3 k hk)⟩
theorem itoa_b (i : Int) (h : In64 i) : (Lib.itoa i).length ≤ 21 := Lib.itoa_length_le i h.1 h.2
theorem Ra.own {w : World} {B : Nat} {p : Option Addr} {c : Nat} {zs : List Int} (o : w.ownsRow B 3 1 (.slice p zs.length c) zs.length (ints zs)) : Ra w p zs := fun h0 => by
  rcases o.2 with ⟨h, h1⟩ | ⟨g, cap, cur, hv, hb, hg, hn, _⟩
  · omega
  · simp at hv
    obtain ⟨rfl, _⟩ := hv
    refine ⟨g, 0, rfl, (Array.getElem?_eq_some_iff.1 hg).1, fun k hk => ?_⟩
    have := World.ownsRow.cells o (g := g) rfl k (.int .i64 (zs.getD k 0)) (by simp [ints, List.getD_eq_getElem?_getD, hk])
    rw [show (⟨g, 0, none⟩ : Addr).add k = ⟨g, 0 + k, none⟩ from Go.WideShapes.add_plain _ _ _] at this
    exact this
/-- what digits denote -/
def dv : List UInt8 → Nat → Nat
  | [], a => a
  | c :: l, a => dv l (10 * a + (c.toNat - 48))
theorem dv_app (l m : List UInt8) : ∀ a, dv (l ++ m) a = dv m (dv l a) := by
  induction l with
  | nil => intro a; rfl
  | cons c l ih => intro a; exact ih _
theorem dg_nat {i : Nat} (h : i < 10) : (UInt8.ofNat (48 + i)).toNat = 48 + i := by
  rw [UInt8.toNat_ofNat']; omega
theorem dv_dec (u : Nat) : dv (Lib.decDigits u) 0 = u := by
  induction u using Nat.strongRecOn with
  | _ u ih =>
    by_cases h : u < 10
    · rw [Lib.decDigits, dif_pos h]
      show 10 * 0 + ((UInt8.ofNat (48 + u)).toNat - 48) = u
      rw [dg_nat h]; omega
    · rw [Lib.decDigits, dif_neg h, dv_app, ih _ (by omega)]
      show 10 * (u / 10) + ((UInt8.ofNat (48 + u % 10)).toNat - 48) = u
      rw [dg_nat (by omega)]; omega
theorem dec_inj {u v : Nat} (h : Lib.decDigits u = Lib.decDigits v) : u = v := by
  rw [← dv_dec u, h, dv_dec]
theorem dec_mem (u : Nat) : ∀ c ∈ Lib.decDigits u, 48 ≤ c.toNat := by
  induction u using Nat.strongRecOn with
  | _ u ih =>
    intro c hc
    by_cases h : u < 10
    · rw [Lib.decDigits, dif_pos h] at hc
      simp only [List.mem_singleton] at hc
      rw [hc, dg_nat h]; omega
    · rw [Lib.decDigits, dif_neg h] at hc
      rcases List.mem_append.1 hc with hc | hc
      · exact ih _ (by omega) c hc
      · simp only [List.mem_singleton] at hc
        rw [hc, dg_nat (by omega)]; omega
theorem itoa_mem (n : Int) : ∀ c ∈ Lib.itoa n, c ≠ 32 := by
  intro c hc e
  subst e
  unfold Lib.itoa at hc
  split at hc
  · rcases List.mem_cons.1 hc with hc | hc
    · exact absurd hc (by decide)
    · exact absurd (dec_mem _ _ hc) (by decide)
  · exact absurd (dec_mem _ _ hc) (by decide)
theorem dec_mem' (u : Nat) : ∀ c ∈ Lib.decDigits u, c ≠ 32 := by
  intro c hc e
  subst e
  exact absurd (dec_mem _ _ hc) (by decide)
theorem itoa_inj {n m : Int} (h : Lib.itoa n = Lib.itoa m) : n = m := by
  have ne : ∀ u v l, Lib.decDigits u ≠ 45 :: Lib.decDigits v ++ l := by
    intro u v l e
    have := dec_mem u 45 (by rw [e]; simp)
    exact absurd this (by decide)
  unfold Lib.itoa at h
  split at h <;> split at h
  · have := dec_inj (List.cons.inj h).2
    omega
  · exact absurd h.symm (by simpa using ne _ _ [])
  · exact absurd h (by simpa using ne _ _ [])
  · have := dec_inj h
    omega
/-- the first blank -/
theorem cut32 : ∀ {l m r s : List UInt8}, (∀ c ∈ l, c ≠ 32) → (∀ c ∈ m, c ≠ 32) → l ++ 32 :: r = m ++ 32 :: s → l = m ∧ r = s
  | [], [], r, s, _, _, h => ⟨rfl, (List.cons.inj h).2⟩
  | [], d :: m, r, s, _, hm, h => absurd (List.cons.inj h).1.symm (hm d (by simp))
  | c :: l, [], r, s, hl, _, h => absurd (List.cons.inj h).1 (hl c (by simp))
  | c :: l, d :: m, r, s, hl, hm, h => by
    obtain ⟨h1, h2⟩ := List.cons.inj h
    obtain ⟨h3, h4⟩ := cut32 (fun c hc => hl c (by simp [hc])) (fun c hc => hm c (by simp [hc])) h2
    exact ⟨by rw [h1, h3], h4⟩
/-- numbers, each followed by a blank -/
def txt : List Int → List UInt8
  | [] => []
  | z :: l => Lib.itoa z ++ 32 :: txt l
theorem txt_app (l m : List Int) : txt (l ++ m) = txt l ++ txt m := by
  induction l with
  | nil => rfl
  | cons z l ih => show Lib.itoa z ++ 32 :: txt (l ++ m) = _; rw [ih]; simp [txt]
theorem txt_snoc (zs : List Int) (k : Nat) (h : k < zs.length) : txt (zs.take (k + 1)) = txt (zs.take k) ++ Lib.itoa (zs.getD k 0) ++ [32] := by
  rw [List.take_succ_eq_append_getElem h, txt_app]
  simp [txt, List.getD_eq_getElem?_getD, h]
theorem txt_inj : ∀ {l m : List Int}, txt l = txt m → l = m
  | [], [], _ => rfl
  | [], z :: m, h => by simp [txt] at h
  | z :: l, [], h => by simp [txt] at h
  | z :: l, y :: m, h => by
    obtain ⟨h1, h2⟩ := cut32 (itoa_mem z) (itoa_mem y) (show Lib.itoa z ++ 32 :: txt l = Lib.itoa y ++ 32 :: txt m from h)
    rw [itoa_inj h1, txt_inj h2]
theorem txt_b : ∀ (zs : List Int), (∀ z ∈ zs, In64 z) → (txt zs).length ≤ 22 * zs.length
  | [], _ => by simp [txt]
  | z :: l, h => by
    have := itoa_b z (h z (by simp))
    have := txt_b l (fun y hy => h y (by simp [hy]))
    simp only [txt, List.length_append, List.length_cons]; omega
theorem in_take (zs : List Int) (h : ∀ k, In64 (zs.getD k 0)) (k : Nat) : ∀ z ∈ zs.take k, In64 z := fun z hz => by
  have hz2 : z ∈ zs := List.mem_of_mem_take hz
  obtain ⟨j, hj, rfl⟩ := List.getElem_of_mem hz2
  have := h j
  simpa [List.getD_eq_getElem?_getD, hj] using this
theorem conv_any {w0 w : World} {v : Value} {n : Nat} {l : List UInt8} (K : KS w0 w v n l) : (convert 59 9 v).run Tryd.prog w = .ok (.string ⟨l.toArray⟩) w := by
  obtain ⟨p, c, rfl⟩ := own_shape K.row
  by_cases h0 : 0 < n
  · obtain ⟨g, c', h1, _⟩ := World.ownsRow.form K.row h0
    simp at h1
    obtain ⟨rfl, rfl⟩ := h1
    have := run_convert_bytes_back (P := Tryd.prog) w 59 9 5 ⟨g, 0, none⟩ c l Tryd.underlying59 Tryd.underlying5 Tryd.underlying9 (fun j hj => World.ownsRow.cells K.row (g := g) rfl j _ (by simp [Lib.byteCells, hj]))
    rw [K.len] at this
    exact this
  · obtain rfl : n = 0 := by omega
    obtain rfl : l = [] := List.eq_nil_of_length_eq_zero K.len
    cases p with
    | none => exact run_convert_bytes_nil w 59 5 Tryd.underlying59 Tryd.underlying5 0 c 9 Tryd.underlying9
    | some a => exact run_convert_bytes_back (P := Tryd.prog) w 59 9 5 a c [] Tryd.underlying59 Tryd.underlying5 Tryd.underlying9 (fun j hj => by simp at hj)
set_option maxRecDepth 100000 in
set_option maxHeartbeats 1000000 in
theorem text30 (p : Option Addr) (c : Nat) (zs : List Int) (w : World) (ht : Tb w) (hr : Ra w p zs) (hl : zs.length ≤ 1000) (hz : ∀ k, In64 (zs.getD k 0)) :
    Calls Tryd.prog 30 #[.slice p zs.length c] w fun e w' => e = .returned (.string ⟨(txt zs).toArray⟩) ∧ BK w w' := by
  obtain ⟨i5, hi5, hz5, hs5, hb5⟩ := info_parts info5
  have HT := Lib.hid ht
  have HR := Lib.hid (fun wc (hb : BK w wc) => hr.keep hb)
  have HZ := Lib.hid hz
  clear ht hr hz
  go_enter Tryd.func30, Tryd.ntmps30
  go_wp2_with fail
  go_loopw [3, 8] (fun v x wr => ∃ k : Nat, k ≤ zs.length ∧ x = .int .i64 k ∧ KS w wr v (txt (zs.take k)).length (txt (zs.take k))) (fun _ x _ => zs.length - (intOf x).toNat)
  case atStart => exact ⟨0, Nat.zero_le _, rfl, World.ownsRow_nil _ _ _ _, rfl, BK.refl _⟩
  case round =>
    obtain ⟨k, hk, rfl, hks⟩ := hrel
    have HK := Lib.hid hks
    have hlb := txt_b (zs.take k) (in_take zs HZ.out k)
    have hlt1 : (zs.take k).length ≤ 1000 := by simp; omega
    by_cases hlt : k < zs.length
    · obtain ⟨b, off, rfl, hlb2, hcell⟩ := (HR.out _ hks.bel) (by omega)
      have dd := hcell k hlt
      have hz1 := HZ.out k
      have hsn := Lib.hid (txt_snoc zs k hlt)
      have hib := itoa_b _ hz1
      clear hcell hks
      generalize zs.getD k 0 = z at dd hz1 hsn hib
      have HZ1 := Lib.hid hz1
      clear hz1
      go_wp2_with fail
      refine (int_any z HK.out HT.out HZ1.out.1 HZ1.out.2 (by omega)).mono ?_
      rintro e w2 ⟨v2, rfl, k2⟩
      obtain ⟨L2, hL2⟩ : ∃ x, x = txt (zs.take k) ++ Lib.itoa z := ⟨_, rfl⟩
      rw [← hL2] at k2
      have hl2 : L2.length ≤ 30000 := by rw [hL2, List.length_append]; omega
      have E2 := Lib.hid hL2
      obtain ⟨m2, hm2⟩ : ∃ x, x = L2.length := ⟨_, rfl⟩
      rw [← hm2] at k2 hl2
      have K2 := Lib.hid k2
      clear k2 hL2 hm2 dd
      go_wp2_with (at_builtin; go_must (refine wpList_append_lies _ rfl _ _ 59 rfl w.heap.size 5 i5 _ 1 1 Tryd.underlying59 hi5 hz5 hs5 hb5 rfl (by omega) _ m2 _ rfl (K2.out.row.alloc _) ⟨w2.heap.size, 0, none⟩ 1 1 [.int .u8 32] rfl rfl (World.news_of_block (cs := #[.int .u8 32]) (t := 5) (fr := (0, 0)) (heap_alloc_new w2 _)) (by simp [Value.oneCell']) (by omega) (by unfold maxLen; omega) (by omega) (by have := bk_size K2.out.bel; simp; omega) (w2.heap.size + 1) (by simp) ?_))
      intro g9 c9 w9 hown hgrow hat hlt9
      have kA : KS w w9 (.slice (some ⟨g9, 0, none⟩) (m2 + 1) c9) (txt (zs.take (k + 1))).length (txt (zs.take (k + 1))) := by
        have hl : (txt (zs.take (k + 1))) = L2 ++ [32] := by rw [hsn.out, E2.out]
        have hm : (L2 ++ [32]).length = m2 + 1 := by have := K2.out.len; simp; omega
        rw [hl, hm]
        have hb : Below w.heap.size w w2 := K2.out.bel
        exact ⟨by rw [bc_append]; exact hown, hm, (hb.alloc hb.size _).grown hgrow (by have := hb.size; simp; omega) (fun r hr => (K2.out.row.lt r hr).1)⟩
      have KA := Lib.hid kA
      clear hown hgrow hat hlt9 kA
      go_wp2_with fail
      go_roundw
      case rel => exact ⟨k + 1, by omega, by go_num, KA.out⟩
      case measure => simp [intOf]; omega
    · obtain rfl : k = zs.length := by omega
      have KF := Lib.hid (show KS w wr _ (txt zs).length (txt zs) by have := hks; rwa [List.take_length] at this)
      clear hks
      obtain ⟨p', c', rfl⟩ := own_shape KF.out.row
      have hconv := conv_any KF.out
      have HB := Lib.hid KF.out.bel
      clear KF HK
      go_wp2_with fail
      go_ret
      exact ⟨rfl, HB.out⟩
end Go.Proofs.YtmejiiebeknbjaaDoor
