/- A table that New did not make, walked. -/
import Derived.Test.YtikbcmffemkjhaaDoorH
namespace Go.Proofs.YtikbcmffemkjhaaDoor
open Go.RowKit
set_option linter.unusedVariables false
set_option linter.unusedSimpArgs false
theorem Bare.keep {w w' : World} {p : Option Addr} (h : Bare w p) (hb : BK w w') : Bare w' p := by
  rcases h with rfl | ⟨b, rfl, hc⟩
  · exact .inl rfl
  · exact .inr ⟨b, rfl, ((show Below w.heap.size w w' from hb).cell (p := ⟨b, 0, none⟩) (World.block_lt_of_cell? w _ hc)).trans hc⟩
set_option maxRecDepth 100000 in
set_option maxHeartbeats 1000000 in
theorem nil_law (op wd : Int) (vl : Nat) (name : ByteArray) (p : Option Addr) (n c : Nat) (id : Int) (w : World) (ht : Tb w) :
    Calls Tryd.prog 10 #[.agg #[.int .i64 op, .int .i64 wd, .int .u64 vl, .string name, .slice p n c], .int .i64 id] w fun e w' => e = .returned (.bool true) ∧ BK w w' := by
  have hx := b5_new w (.int .i64 op) (.int .i64 wd) (.int .u64 vl) (.string name) (.slice p n c) 26
  have hlt := box_lt w #[.int .i64 op, .int .i64 wd, .int .u64 vl, .string name, .slice p n c] 26
  have hk0 := bk_alloc (BK.refl w) (.cells #[.int .i64 op, .int .i64 wd, .int .u64 vl, .string name, .slice p n c] 26)
  go_enter Tryd.func10, Tryd.ntmps10
  go_wp2_with fail
  generalize w.alloc (.cells #[.int .i64 op, .int .i64 wd, .int .u64 vl, .string name, .slice p n c] 26) = w0 at hx hlt hk0 ⊢
  have KC := Lib.hid (fun wc (hb : BK w0 wc) => hx.keep hb hlt)
  have K0 := Lib.hid hk0
  have HT := Lib.hid ht
  clear hx hk0 ht
  go_loopw [5, 6] (fun v x wr => ∃ (k : Nat) (q : Option Addr), k ≤ 2 ∧ x = .int .i64 k ∧ v = .pointer q ∧ Bare wr q ∧ BK w0 wr) (fun _ x _ => 2 - (intOf x).toNat)
  case atStart => exact ⟨0, none, by omega, rfl, rfl, .inl rfl, BK.refl _⟩
  case round =>
    obtain ⟨k, q, hk, rfl, rfl, hbare, hkw⟩ := hrel
    by_cases hlt2 : k < 2
    · have HB := Lib.hid hbare
      have HK := Lib.hid hkw
      obtain ⟨x0, x1, x2, x3, x4⟩ := KC.out _ hkw
      clear hbare hkw
      go_wp2_with fail
      refine (get_bare q op wd vl name _ _ HB.out).mono ?_
      rintro e w1 ⟨rfl, hb1⟩
      have B1 := Lib.hid (HB.out.keep hb1)
      have K1 := Lib.hid (bk_tr HK.out hb1)
      clear x0 x1 x2 x3 x4 hb1
      obtain ⟨x0, x1, x2, x3, x4⟩ := KC.out _ K1.out
      go_wp2_with fail
      refine (put_bare q op wd vl name _ id _ B1.out).mono ?_
      rintro e w2 ⟨rfl, hb2⟩
      have B2 := Lib.hid (B1.out.keep hb2)
      have K2 := Lib.hid (bk_tr K1.out hb2)
      clear x0 x1 x2 x3 x4 hb2
      obtain ⟨x0, x1, x2, x3, x4⟩ := KC.out _ K2.out
      go_wp2_with fail
      refine (del_bare q op wd vl name _ _ B2.out).mono ?_
      rintro e w3 ⟨rfl, hb3⟩
      have B3 := Lib.hid (B2.out.keep hb3)
      have K3 := Lib.hid (bk_tr K2.out hb3)
      clear x0 x1 x2 x3 x4 hb3
      go_wp2_with (first | (go_at_call 31; refine (len_bare q _ B3.out).mono ?_; rintro e w' ⟨rfl, rfl⟩) | (go_at_call 33; refine (nodes_bare q _ B3.out).mono ?_; rintro e w' ⟨rfl, rfl⟩))
      have hn : Bare (w3.alloc (.cells #[.pointer none, .map none] 58)) (some ⟨w3.heap.size, 0, none⟩) := .inr ⟨w3.heap.size, rfl, by rw [World.cell?_alloc_new]; rfl⟩
      have HN := Lib.hid hn
      clear hn
      go_roundw
      case rel => exact ⟨k + 1, _, by omega, by go_num, rfl, HN.out, bk_alloc K3.out _⟩
      case measure => simp [intOf]; omega
    · have HK := Lib.hid (bk_tr K0.out hkw)
      clear hbare hkw
      go_wp2_with fail
      refine (live_any _ (HT.out.keep HK.out)).mono ?_
      rintro e w9 ⟨rfl, hb9⟩
      have H9 := Lib.hid (bk_tr HK.out hb9)
      clear hb9
      go_wp2_with fail
      go_ret
      exact ⟨rfl, H9.out⟩
end Go.Proofs.YtikbcmffemkjhaaDoor
