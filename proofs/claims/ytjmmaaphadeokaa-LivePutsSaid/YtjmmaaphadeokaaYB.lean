/- A program without one instruction. -/
import Derived.Test.YtjmmaaphadeokaaRH
namespace Go.Proofs.Ytjmmaaphadeokaa
open Go.RowKit Go.Shelf
set_option linter.unusedVariables false
set_option linter.unusedSimpArgs false
theorem er_at (ins : List I6) (k : Nat) : (ins.take (k + 1)).eraseIdx k = (ins.take k).eraseIdx k := by
  by_cases h : k < ins.length
  · rw [List.take_succ_eq_append_getElem h, List.eraseIdx_append_of_length_le (by simp; omega), List.eraseIdx_of_length_le (l := ins.take k) (by simp; omega)]
    have e : k - (ins.take k).length = 0 := by simp; omega
    rw [e]; simp
  · rw [List.take_of_length_le (by omega), List.take_of_length_le (by omega)]
theorem er_lo (ins : List I6) (k j : Nat) (h : j < ins.length) (hjk : j < k) : (ins.take (j + 1)).eraseIdx k = (ins.take j).eraseIdx k ++ [ins[j]] := by
  rw [List.eraseIdx_of_length_le (by simp; omega), List.eraseIdx_of_length_le (by simp; omega), List.take_succ_eq_append_getElem h]
theorem er_hi (ins : List I6) (k j : Nat) (h : j < ins.length) (hjk : k < j) : (ins.take (j + 1)).eraseIdx k = (ins.take j).eraseIdx k ++ [ins[j]] := by
  rw [List.take_succ_eq_append_getElem h, List.eraseIdx_append_of_lt_length (by simp; omega)]
theorem er_len (l : List I6) (k : Nat) : (l.eraseIdx k).length ≤ l.length := List.length_eraseIdx_le l k
/-- a program comes back -/
def CPQ (w : World) (W R : Int) (L : List I6) (q : Option Addr) (m qc : Nat) (e : Ending) (w' : World) : Prop :=
  ∃ p' pc', e = .returned (.agg #[.int .i64 W, .int .i64 R, .slice p' L.length pc', .slice q m qc]) ∧ RI w' p' pc' L ∧ BK w w'
set_option maxRecDepth 100000 in
set_option maxHeartbeats 4000000 in
theorem without42 (W R : Int) (p q : Option Addr) (pc qc : Nat) (ins : List I6) (m : Nat) (w : World) (hi : RI w p pc ins) (li : ins.length ≤ 300) (k0 : Nat) (hk0 : k0 < ins.length) :
    Calls Try.prog 42 #[.agg #[.int .i64 W, .int .i64 R, .slice p ins.length pc, .slice q m qc], .int .i64 (k0 : Int)] w (CPQ w W R (ins.eraseIdx k0) q m qc) := by
  have hz := W4.new (w.alloc (.cells #[.int .i64 W, .int .i64 R, .slice p ins.length pc, .slice q m qc] 25)) (.int .i64 0) (.int .i64 0) (.slice none 0 0) (.slice none 0 0)
  rw [sz1] at hz
  have hc4 := (W4.new w (.int .i64 W) (.int .i64 R) (.slice p ins.length pc) (.slice q m qc)).keep (bk_alloc (BK.refl _) (.cells #[.int .i64 0, .int .i64 0, .slice none 0 0, .slice none 0 0] 25))
  have k9 := bk_alloc (bk_alloc (BK.refl w) (.cells #[.int .i64 W, .int .i64 R, .slice p ins.length pc, .slice q m qc] 25)) (.cells #[.int .i64 0, .int .i64 0, .slice none 0 0, .slice none 0 0] 25)
  have HI := Lib.hid hi
  clear hi
  go_enter Try.func42, Try.ntmps42
  go_upto_region 1 with (fail)
  generalize (w.alloc (.cells #[.int .i64 W, .int .i64 R, .slice p ins.length pc, .slice q m qc] 25)).alloc (.cells #[.int .i64 0, .int .i64 0, .slice none 0 0, .slice none 0 0] 25) = w2 at hz k9 hc4 ⊢
  have HZ := Lib.hid hz
  have K0 := Lib.hid k9
  have HC4 := Lib.hid hc4
  clear hz k9 hc4
  have HE0 := Lib.hid (own_empty w2 w2.heap.size (Nat.le_refl _) 54 6)
  have KE := Lib.hid (bk_alloc (BK.refl w2) (.cells #[] 54))
  go_wp2_with fail
  generalize w2.alloc (.cells #[] 54) = w2' at HE0 KE ⊢
  go_loopw [5, 6] (fun v x wr => ∃ k : Nat, k ≤ ins.length ∧ x = .int .i64 (k : Int) ∧ wr.ownsRow w2.heap.size 54 6 v ((ins.take k).eraseIdx k0).length (flat6 ((ins.take k).eraseIdx k0)) ∧ BK w2 wr) (fun _ x _ => ins.length - (intOf x).toNat)
  case atStart => exact ⟨0, Nat.zero_le _, rfl, HE0.out, KE.out⟩
  case round =>
    obtain ⟨k, hk, rfl, hown, hkw⟩ := hrel
    have HK := Lib.hid hkw
    have HO9 := Lib.hid hown
    obtain ⟨c0, c1, c2, c3⟩ := (HC4.out.keep hkw).b4
    by_cases hlt : k < ins.length
    · have hi1 : (k : Int) < ins.length := by omega
      by_cases hq : k = k0
      · subst hq
        have HL := Lib.hid (er_at ins k)
        clear hkw hown
        go_wp2_with fail
        go_roundw
        case rel => exact ⟨k + 1, by omega, by go_num, by rw [HL.out]; exact HO9.out, HK.out⟩
        case measure => simp [intOf]; omega
      · obtain ⟨b, o, hpe, hc⟩ := (HI.out.keep (bk_tr K0.out hkw)).get k hlt
        subst hpe
        have HL := Lib.hid (show (ins.take (k + 1)).eraseIdx k0 = (ins.take k).eraseIdx k0 ++ [ins[k]] from by
          rcases Nat.lt_or_gt_of_ne hq with h | h
          · exact er_lo ins k0 k hlt h
          · exact er_hi ins k0 k hlt h)
        have hbs := hkw.bl.size
        have hln : ((ins.take k).eraseIdx k0).length ≤ 1000 := by have := er_len (ins.take k) k0; simp at this; omega
        have hnk : ((k : Int) != (k0 : Int)) = true := by simp; omega
        have hne : ¬ (k : Int) = (k0 : Int) := by omega
        clear hkw
        generalize hgi : ins[k] = i at hc HL
        have HGI := Lib.hid hgi
        clear hgi
        obtain ⟨x0, x1, x2, x3, x4, x5⟩ := hc
        generalize hML : (ins.take k).eraseIdx k0 = ML at hown HO9 hln HL
        have HML := Lib.hid hML
        clear hML
        go_wp2_with (at_builtin; refine wpList_app6 rfl _ _ rfl w2.heap.size _ _ ML rfl (hown.alloc _) (some ⟨wr.heap.size, 0, none⟩) 1 [i] rfl (ri_one wr i) (by simp; omega) (by simp; omega) ?_; intro v' w3 ho3 hb3 hg3; have HO3 := Lib.hid (show w3.ownsRow w2.heap.size 54 6 v' ((ins.take (k + 1)).eraseIdx k0).length (flat6 ((ins.take (k + 1)).eraseIdx k0)) from own_cast ho3 (by rw [HL.out]; simp; try omega) (by rw [HL.out])); have K3 := Lib.hid (show BK w2 w3 from (HK.out.bl.alloc hbs _).trans hb3); clear ho3 hb3 hg3)
        go_roundw
        case rel => exact ⟨k + 1, by omega, by go_num, HO3.out, K3.out⟩
        case measure => simp [intOf]; omega
    · obtain rfl : k = ins.length := by omega
      rw [List.take_length] at HO9
      clear hown hkw
      obtain ⟨p', pc', rfl⟩ := own_shape HO9.out
      clear c0 c1 c2 c3
      obtain ⟨⟨c0, c1, c2, c3⟩, fc0, fc1, fc2, fc3⟩ := (HC4.out.keep HK.out).cells
      obtain ⟨⟨z0, z1, z2, z3⟩, g0, g1, g2, g3⟩ := (HZ.out.keep HK.out).cells
      have n1 : ¬ w.heap.size + 1 = w.heap.size := by omega
      have n2 : ¬ w.heap.size = w.heap.size + 1 := by omega
      go_wp2_with fail
      clear c0 c1 c2 c3
      refine bodyPost_ret (v := .agg #[.int .i64 W, .int .i64 R, .slice p' (ins.eraseIdx k0).length pc', .slice q m qc]) (by simp [results, Try.results42, go_sem, z0, z1, z2, z3]) rfl ⟨p', pc', rfl, ?_, ?_⟩
      · have hn2 := HZ.out.lt
        refine RI.own (B := w2.heap.size) (e := 54) (n := (ins.eraseIdx k0).length) ?_
        repeat (first | exact HO9.out | refine own_set ?_ _ _ (by show w.heap.size + 1 < w2.heap.size; omega) | refine own_set ?_ _ _ (by show w.heap.size < w2.heap.size; omega))
      · repeat (first | exact bk_tr K0.out HK.out | refine bk_set ?_ _ _ (by show w.heap.size ≤ w.heap.size + 1; omega) | refine bk_set ?_ _ _ (by show w.heap.size ≤ w.heap.size; omega))
end Go.Proofs.Ytjmmaaphadeokaa
