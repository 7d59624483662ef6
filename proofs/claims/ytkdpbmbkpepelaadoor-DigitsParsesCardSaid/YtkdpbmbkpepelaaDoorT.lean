/- ParseList of the reference. -/
import Derived.Test.YtkdpbmbkpepelaaDoorS
namespace Go.Proofs.YtkdpbmbkpepelaaDoor
open Go.RowKit
set_option linter.unusedVariables false
set_option linter.unusedSimpArgs false
/-- between two bytes -/
def RI (l : List UInt8) (acc : List Int) (f i : Nat) : Prop :=
  (i ≤ l.length ∧ f ≤ i ∧ (∀ c ∈ (l.drop f).take (i - f), c ≠ 32) ∧ plA [] (sp l) = plA acc (sp (l.drop f)) ∧ acc.length ≤ i) ∨ (i = l.length + 1 ∧ plA [] (sp l) = .ok acc ∧ acc.length ≤ i)
theorem take_step {l : List UInt8} {f i : Nat} (hf : f ≤ i) (hi : i < l.length) : (l.drop f).take (i + 1 - f) = (l.drop f).take (i - f) ++ [l.getD i 0] := by
  rw [show i + 1 - f = (i - f) + 1 by omega, List.take_succ_eq_append_getElem (by rw [List.length_drop]; omega), List.getElem_drop]
  rw [List.getD_eq_getElem?_getD, List.getElem?_eq_getElem hi]
  congr 2
  simp only [Option.getD_some]
  congr 1
  omega
theorem drop_cut {l : List UInt8} {f i : Nat} (hf : f ≤ i) (hi : i < l.length) : l.drop f = (l.drop f).take (i - f) ++ l.getD i 0 :: l.drop (i + 1) := by
  conv => lhs; rw [← List.take_append_drop (i - f) (l.drop f)]
  rw [List.drop_drop, show f + (i - f) = i by omega, List.drop_eq_getElem_cons hi, List.getD_eq_getElem?_getD, List.getElem?_eq_getElem hi]
  rfl
theorem RI.plain {l : List UInt8} {acc : List Int} {f i : Nat} (h : RI l acc f i) (hi : i < l.length) (hc : l.getD i 0 ≠ 32) : RI l acc f (i + 1) := by
  rcases h with ⟨h1, h2, h3, h4, h5⟩ | ⟨h1, _⟩
  · refine .inl ⟨hi, by omega, ?_, h4, by omega⟩
    rw [take_step h2 hi]
    intro c hm
    rcases List.mem_append.1 hm with hm | hm
    · exact h3 c hm
    · rw [List.mem_singleton.1 hm]; exact hc
  · omega
/-- the piece at a blank or at the end -/
theorem RI.piece {l : List UInt8} {acc : List Int} {f i : Nat} (h : RI l acc f i) (hi : i ≤ l.length) (hc : i = l.length ∨ l.getD i 0 = 32) :
    plA [] (sp l) = (match parseI ((l.drop f).take (i - f)) with
      | .ok n => if i = l.length then .ok (acc ++ [n]) else plA (acc ++ [n]) (sp (l.drop (i + 1)))
      | .syntax => .syntax
      | .range => .range) ∧ acc.length ≤ i ∧ f ≤ i := by
  rcases h with ⟨h1, h2, h3, h4, h5⟩ | ⟨h1, _⟩
  · refine ⟨?_, h5, h2⟩
    rw [h4]
    by_cases he : i = l.length
    · have e : (l.drop f).take (i - f) = l.drop f := List.take_of_length_le (by rw [List.length_drop]; omega)
      rw [e] at h3 ⊢
      rw [sp_plain h3, plA_one]
      cases parseI (l.drop f) with
      | ok n => show _ = if i = l.length then _ else _; rw [if_pos he]
      | «syntax» => rfl
      | range => rfl
    · have hc : l.getD i 0 = 32 := hc.resolve_left he
      have hlt : i < l.length := by omega
      conv => lhs; rw [drop_cut h2 hlt, hc, sp_cut _ h3, plA_cons]
      cases parseI ((l.drop f).take (i - f)) with
      | ok n => show _ = if i = l.length then _ else _; rw [if_neg he]
      | «syntax» => rfl
      | range => rfl
  · omega
theorem RI.next {l : List UInt8} {acc : List Int} {f i : Nat} {n : Int} (h : RI l acc f i) (hi : i ≤ l.length) (hc : i = l.length ∨ l.getD i 0 = 32) (hn : parseI ((l.drop f).take (i - f)) = .ok n) : RI l (acc ++ [n]) (i + 1) (i + 1) := by
  obtain ⟨h1, h2, h3⟩ := h.piece hi hc
  rw [hn] at h1
  have h1 : plA [] (sp l) = if i = l.length then .ok (acc ++ [n]) else plA (acc ++ [n]) (sp (l.drop (i + 1))) := h1
  by_cases he : i = l.length
  · rw [if_pos he] at h1
    exact .inr ⟨by omega, h1, by simp; omega⟩
  · rw [if_neg he] at h1
    exact .inl ⟨by omega, Nat.le_refl _, by simp, h1, by simp; omega⟩
theorem RI.bad {l : List UInt8} {acc : List Int} {f i : Nat} (h : RI l acc f i) (hi : i ≤ l.length) (hc : i = l.length ∨ l.getD i 0 = 32) :
    (parseI ((l.drop f).take (i - f)) = .syntax → plA [] (sp l) = .syntax) ∧ (parseI ((l.drop f).take (i - f)) = .range → plA [] (sp l) = .range) := by
  obtain ⟨h1, _⟩ := h.piece hi hc
  constructor
  · intro hn; rw [hn] at h1; exact h1
  · intro hn; rw [hn] at h1; exact h1
theorem ext_piece (s : ByteArray) (f i : Nat) : bl (s.extract f i) = ((bl s).drop f).take (i - f) := bl_extract s f i
set_option maxRecDepth 100000 in
set_option maxHeartbeats 4000000 in
theorem rplist21 (s : ByteArray) (hs : s.size ≤ 1000000) (w : World) : Calls Tryd.prog 21 #[.string s] w (PL w (parseL (bl s))) := by
  rcases str_cases s with h | ⟨h1, hne⟩
  · have HV := Lib.hid (show parseL (bl s) = .ok [] by rw [h]; rfl)
    subst h
    go_enter Tryd.func21, Tryd.ntmps21
    go_wp2_with fail
    go_ret2
    exact ⟨none, 0, by rw [HV.out]; rfl, by rw [HV.out]; exact fun h => absurd h (by decide), BK.refl _⟩
  · obtain ⟨i3, hi3, hz3, hs3, hb3⟩ := info_parts info3
    have HE := Lib.hid (show parseL (bl s) = plA [] (sp (bl s)) by
      unfold parseL
      rw [if_neg]
      intro e
      have : (bl s).length = 0 := by rw [e]; rfl
      rw [bl_len] at this
      omega)
    clear h1
    go_enter Tryd.func21, Tryd.ntmps21
    go_wp2_with fail
    go_loopw [4, 5, 6] (fun o fv iv W => ∃ (acc : List Int) (f i : Nat), fv = .int .i64 (f : Int) ∧ iv = .int .i64 (i : Int) ∧ W.ownsRow w.heap.size 3 1 o acc.length (ints acc) ∧ Hid (RI (bl s) acc f i) ∧ BK w W) (fun _ _ i _ => s.size + 1 - (intOf i).toNat)
    case atStart => exact ⟨[], 0, 0, rfl, rfl, World.ownsRow_nil _ _ _ _, Lib.hid (.inl ⟨Nat.zero_le _, Nat.le_refl _, by simp, rfl, Nat.le_refl _⟩), BK.refl _⟩
    case round =>
      obtain ⟨acc, f, i, rfl, rfl, hrow, hri, hb⟩ := hrel
      have HRW := Lib.hid hrow
      have HB := Lib.hid hb
      by_cases hle : i ≤ s.size
      · have hle' : i ≤ (bl s).length := by rw [bl_len]; exact hle
        by_cases hcase : ∃ h : i < s.size, s.data[i]'h ≠ 32
        · obtain ⟨hlt, hc⟩ := hcase
          have hN := Lib.hid (hri.out.plain (by rw [bl_len]; exact hlt) (by rw [bl_get hlt]; exact hc))
          have hcc : (((s[i]'hlt).toNat : Int) != 32) = true := by
            rw [bne_iff_ne]
            intro e
            exact hc (UInt8.toNat_inj.1 (by show (s[i]'hlt).toNat = 32; omega))
          have iv : (i : Int) < (s.size : Int) := by omega
          have iv2 : (i : Int) ≤ (s.size : Int) := by omega
          clear hc hrow hb
          go_wp2_with fail
          go_roundw
          case rel => exact ⟨acc, f, i + 1, rfl, by go_num, HRW.out, hN, HB.out⟩
          case measure => simp [intOf]; omega
        · have hq : i = (bl s).length ∨ (bl s).getD i 0 = 32 := by
            rcases Nat.lt_or_ge i s.size with hlt | hge
            · right
              rw [bl_get hlt]
              rcases Classical.em (s.data[i]'hlt = 32) with h | h
              · exact h
              · exact absurd ⟨hlt, h⟩ hcase
            · left; rw [bl_len]; omega
          have hX := ext_piece s f i
          have hbad := hri.out.bad hle' hq
          have hnext := fun n => hri.out.next (n := n) hle' hq
          have hal := (hri.out.piece hle' hq).2
          have H19 := fun w => rpint19 (s.extract f i) (Nat.le_trans (ext_size _ _ _) hs) w
          rw [← hX] at hbad
          have hnext : ∀ n, parseI (bl (s.extract f i)) = .ok n → RI (bl s) (acc ++ [n]) (i + 1) (i + 1) := fun n h => hnext n (by rw [← hX]; exact h)
          clear hX
          obtain ⟨hal1, hal2⟩ := hal
          have if1 : (f : Int) ≤ (i : Int) := by omega
          have if2 : (i : Int) ≤ (s.size : Int) := by omega
          have if3 : (0 : Int) ≤ (f : Int) := by omega
          have hguard : (∃ h : i < s.size, s.data[i]'h = 32) ∨ i = s.size := by
            rcases Nat.lt_or_ge i s.size with hlt | hge
            · left
              refine ⟨hlt, ?_⟩
              rcases hq with h | h
              · rw [bl_len] at h; omega
              · rw [bl_get hlt] at h; exact h
            · right; omega
          clear hcase hq
          rcases hguard with ⟨hlt, hc⟩ | hlen
          · have hcc : (((s[i]'hlt).toNat : Int) != 32) = false := by
              rw [bne_eq_false_iff_eq]
              have : s[i]'hlt = 32 := hc
              rw [this]; rfl
            have iv : (i : Int) < (s.size : Int) := by omega
            clear hc
            cases hp : parseI (bl (s.extract f i)) with
            | «syntax» =>
              rw [hp] at H19
              have H19 : ∀ w, Calls Tryd.prog 19 #[.string (s.extract f i)] w fun e w' => e = .returned (.tuple #[.int .i64 0, .int .i64 6]) ∧ BK w w' := H19
              have HV := Lib.hid (HE.out.trans (hbad.1 hp))
              clear hbad hnext hrow hb hp
              go_wp2_with (go_at_call 19; refine (H19 _).mono ?_; rintro e w2 ⟨rfl, hb2⟩; have HB2 := Lib.hid (bk_tr HB.out hb2); clear hb2)
              go_ret2
              exact ⟨none, 0, by rw [HV.out]; rfl, by rw [HV.out]; exact fun h => absurd h (by decide), HB2.out⟩
            | range =>
              rw [hp] at H19
              have H19 : ∀ w, Calls Tryd.prog 19 #[.string (s.extract f i)] w fun e w' => e = .returned (.tuple #[.int .i64 0, .int .i64 2]) ∧ BK w w' := H19
              have HV := Lib.hid (HE.out.trans (hbad.2 hp))
              clear hbad hnext hrow hb hp
              go_wp2_with (go_at_call 19; refine (H19 _).mono ?_; rintro e w2 ⟨rfl, hb2⟩; have HB2 := Lib.hid (bk_tr HB.out hb2); clear hb2)
              go_ret2
              exact ⟨none, 0, by rw [HV.out]; rfl, by rw [HV.out]; exact fun h => absurd h (by decide), HB2.out⟩
            | ok n =>
              rw [hp] at H19
              have H19 : ∀ w, Calls Tryd.prog 19 #[.string (s.extract f i)] w fun e w' => e = .returned (.tuple #[.int .i64 n, .int .i64 0]) ∧ BK w w' := H19
              have HN := Lib.hid (hnext n hp)
              obtain ⟨m, hm⟩ : ∃ m, m = acc.length := ⟨_, rfl⟩
              rw [← hm] at HRW hal1
              have HM := Lib.hid hm
              have HI := Lib.hid (ints_snoc acc n)
              clear hbad hnext hrow hb hp hm
              go_wp2_with (first
                | (at_builtin; go_must (refine wpList_append_lies _ rfl _ _ 33 rfl w.heap.size 3 i3 _ 1 8 Tryd.underlying33 hi3 hz3 hs3 hb3 rfl (by omega) _ m _ rfl (HR2.out.alloc _) ⟨w2.heap.size, 0, none⟩ 1 1 [.int .i64 n] rfl rfl (World.news_of_block (cs := #[.int .i64 n]) (t := 3) (fr := (0, 0)) (heap_alloc_new w2 _)) (by simp [Value.oneCell']) (by omega) (by unfold maxLen; omega) (by omega) (by have := bk_size HB2.out; simp; omega) (w2.heap.size + 1) (by simp) ?_))
                | (go_at_call 19; refine (H19 _).mono ?_; rintro e w2 ⟨rfl, hb2⟩; have HR2 := Lib.hid (own_below HRW.out hb2); have HB2 := Lib.hid (bk_tr HB.out hb2); clear hb2))
              intro g9 c9 w9 hown hgrow hat hlt9
              have hB : Below w.heap.size w w2 := HB2.out
              have HB9 := Lib.hid (show BK w w9 from (hB.alloc hB.size _).grown hgrow (by have := hB.size; simp; omega) (fun r hr => (HR2.out.lt r hr).1))
              have HO9 := Lib.hid (show w9.ownsRow w.heap.size 3 1 (.slice (some ⟨g9, 0, none⟩) (m + 1) c9) (acc ++ [n]).length (ints (acc ++ [n])) by rw [HI.out, List.length_append, ← HM.out]; exact hown)
              clear hown hgrow hat hlt9 hB
              go_wp2_with fail
              go_roundw
              case rel => exact ⟨acc ++ [n], i + 1, i + 1, by go_num, by go_num, HO9.out, HN, HB9.out⟩
              case measure => simp [intOf]; omega
          · have iv : (s.size : Int) ≤ (i : Int) := by omega
            clear hlen
            cases hp : parseI (bl (s.extract f i)) with
            | «syntax» =>
              rw [hp] at H19
              have H19 : ∀ w, Calls Tryd.prog 19 #[.string (s.extract f i)] w fun e w' => e = .returned (.tuple #[.int .i64 0, .int .i64 6]) ∧ BK w w' := H19
              have HV := Lib.hid (HE.out.trans (hbad.1 hp))
              clear hbad hnext hrow hb hp
              go_wp2_with (go_at_call 19; refine (H19 _).mono ?_; rintro e w2 ⟨rfl, hb2⟩; have HB2 := Lib.hid (bk_tr HB.out hb2); clear hb2)
              go_ret2
              exact ⟨none, 0, by rw [HV.out]; rfl, by rw [HV.out]; exact fun h => absurd h (by decide), HB2.out⟩
            | range =>
              rw [hp] at H19
              have H19 : ∀ w, Calls Tryd.prog 19 #[.string (s.extract f i)] w fun e w' => e = .returned (.tuple #[.int .i64 0, .int .i64 2]) ∧ BK w w' := H19
              have HV := Lib.hid (HE.out.trans (hbad.2 hp))
              clear hbad hnext hrow hb hp
              go_wp2_with (go_at_call 19; refine (H19 _).mono ?_; rintro e w2 ⟨rfl, hb2⟩; have HB2 := Lib.hid (bk_tr HB.out hb2); clear hb2)
              go_ret2
              exact ⟨none, 0, by rw [HV.out]; rfl, by rw [HV.out]; exact fun h => absurd h (by decide), HB2.out⟩
            | ok n =>
              rw [hp] at H19
              have H19 : ∀ w, Calls Tryd.prog 19 #[.string (s.extract f i)] w fun e w' => e = .returned (.tuple #[.int .i64 n, .int .i64 0]) ∧ BK w w' := H19
              have HN := Lib.hid (hnext n hp)
              obtain ⟨m, hm⟩ : ∃ m, m = acc.length := ⟨_, rfl⟩
              rw [← hm] at HRW hal1
              have HM := Lib.hid hm
              have HI := Lib.hid (ints_snoc acc n)
              clear hbad hnext hrow hb hp hm
              go_wp2_with (first
                | (at_builtin; go_must (refine wpList_append_lies _ rfl _ _ 33 rfl w.heap.size 3 i3 _ 1 8 Tryd.underlying33 hi3 hz3 hs3 hb3 rfl (by omega) _ m _ rfl (HR2.out.alloc _) ⟨w2.heap.size, 0, none⟩ 1 1 [.int .i64 n] rfl rfl (World.news_of_block (cs := #[.int .i64 n]) (t := 3) (fr := (0, 0)) (heap_alloc_new w2 _)) (by simp [Value.oneCell']) (by omega) (by unfold maxLen; omega) (by omega) (by have := bk_size HB2.out; simp; omega) (w2.heap.size + 1) (by simp) ?_))
                | (go_at_call 19; refine (H19 _).mono ?_; rintro e w2 ⟨rfl, hb2⟩; have HR2 := Lib.hid (own_below HRW.out hb2); have HB2 := Lib.hid (bk_tr HB.out hb2); clear hb2))
              intro g9 c9 w9 hown hgrow hat hlt9
              have hB : Below w.heap.size w w2 := HB2.out
              have HB9 := Lib.hid (show BK w w9 from (hB.alloc hB.size _).grown hgrow (by have := hB.size; simp; omega) (fun r hr => (HR2.out.lt r hr).1))
              have HO9 := Lib.hid (show w9.ownsRow w.heap.size 3 1 (.slice (some ⟨g9, 0, none⟩) (m + 1) c9) (acc ++ [n]).length (ints (acc ++ [n])) by rw [HI.out, List.length_append, ← HM.out]; exact hown)
              clear hown hgrow hat hlt9 hB
              go_wp2_with fail
              go_roundw
              case rel => exact ⟨acc ++ [n], i + 1, i + 1, by go_num, by go_num, HO9.out, HN, HB9.out⟩
              case measure => simp [intOf]; omega
      · have hF : plA [] (sp (bl s)) = .ok acc := by
          rcases hri.out with ⟨h1, _⟩ | ⟨_, h2, _⟩
          · rw [bl_len] at h1; omega
          · exact h2
        have HV := Lib.hid (HE.out.trans hF)
        obtain ⟨p, c, rfl⟩ := own_shape hrow
        have HRA := Lib.hid (Ra.own hrow)
        clear hF hrow hb
        have iv2 : (s.size : Int) < (i : Int) := by omega
        go_wp2_with fail
        go_ret2
        exact ⟨p, c, by rw [HV.out]; rfl, by rw [HV.out]; exact HRA.out, HB.out⟩
end Go.Proofs.YtkdpbmbkpepelaaDoor
