/- The example of the document. -/
import Derived.Test.YtclefcjojlkcnaaDoorG
namespace Go.Proofs.YtclefcjojlkcnaaDoor
open Go.RowKit Go.Maps
set_option linter.unusedVariables false
set_option linter.unusedSimpArgs false
theorem new_ex (B : Nat) (w : World) (hB : B ≤ w.heap.size) : Calls Tryd.prog 24 #[] w fun e w' => ∃ tb mb, e = .returned (.pointer (some ⟨tb, 0, none⟩)) ∧ TB B w' tb mb 0 (.map []) ∧ BK w w' :=
  (new_any B w hB).mono fun e w' ⟨h1, h2, h3⟩ => ⟨_, _, h1, h2, h3⟩
theorem same_key (K : List UInt8) (h : K.length ≤ 3000000) : (Lit.string K).sameKey (.string K) = true := WideAt.sameKey_self (keyLaw.key (key_of h))
def D1 (K : List UInt8) (id : Int) : DataW Unit := .map [(.string K, .lit (.int .i64 id))]
theorem put1 (K : List UInt8) (id : Int) : DataW.put (.map []) (.string K) (.lit (.int .i64 id)) = D1 K id := rfl
theorem has1 (K : List UInt8) (id : Int) (h : K.length ≤ 3000000) : Maps.has (D1 K id) (.string K) = true := by simp [D1, Maps.has, same_key K h]
theorem at1 (K : List UInt8) (id : Int) (h : K.length ≤ 3000000) : (D1 K id).atKey (.string K) (.lit (.int .i64 0)) = .lit (.int .i64 id) := by simp [D1, DataW.atKey, same_key K h]
theorem size1 (K : List UInt8) (id : Int) : Maps.size (D1 K id) = 1 := rfl
theorem del1 (K : List UInt8) (id : Int) (h : K.length ≤ 3000000) : (D1 K id).del (.string K) = .map [] := by simp [D1, DataW.del, same_key K h]
theorem nd34 (w : World) (p : Option Addr) (h : Ra w p [3, 4]) : Nd w 8 8 0 ⟨#[]⟩ p [3, 4] := by
  refine ⟨⟨by omega, by omega⟩, ⟨by omega, by omega⟩, by omega, by show (#[] : Array UInt8).size ≤ _; simp, by simp, fun k => ?_, h⟩
  match k with
  | 0 => exact ⟨by simp, by simp⟩
  | 1 => exact ⟨by simp, by simp⟩
  | k + 2 => exact ⟨by simp, by simp⟩
set_option maxRecDepth 100000 in
set_option maxHeartbeats 1000000 in
theorem live_any (w : World) (ht : Tb w) : Calls Tryd.prog 12 #[] w fun e w' => e = .returned (.bool true) ∧ BK w w' := by
  have hk0 : BK w ((w.alloc (.cells #[.int .i64 3, .int .i64 4] 3)).alloc (.cells #[.int .i64 8, .int .i64 8, .int .u64 0, .string ⟨#[]⟩, .slice (some ⟨w.heap.size, 0, none⟩) 2 2] 26)) := bk_alloc (bk_alloc (BK.refl w) _) _
  have hx := b5_new (w.alloc (.cells #[.int .i64 3, .int .i64 4] 3)) (.int .i64 8) (.int .i64 8) (.int .u64 0) (.string ⟨#[]⟩) (.slice (some ⟨w.heap.size, 0, none⟩) 2 2) 26
  rw [show (w.alloc (.cells #[.int .i64 3, .int .i64 4] 3)).heap.size = w.heap.size + 1 by simp] at hx
  have hsz : ((w.alloc (.cells #[.int .i64 3, .int .i64 4] 3)).alloc (.cells #[.int .i64 8, .int .i64 8, .int .u64 0, .string ⟨#[]⟩, .slice (some ⟨w.heap.size, 0, none⟩) 2 2] 26)).heap.size = w.heap.size + 2 := by simp
  have hra : Ra ((w.alloc (.cells #[.int .i64 3, .int .i64 4] 3)).alloc (.cells #[.int .i64 8, .int .i64 8, .int .u64 0, .string ⟨#[]⟩, .slice (some ⟨w.heap.size, 0, none⟩) 2 2] 26)) (some ⟨w.heap.size, 0, none⟩) [3, 4] := by
    have h1 : Ra (w.alloc (.cells #[.int .i64 3, .int .i64 4] 3)) (some ⟨w.heap.size, 0, none⟩) [3, 4] := fun _ => ⟨w.heap.size, 0, rfl, by simp, fun k hk => by
      match k, hk with
      | 0, _ => rw [Nat.add_zero, World.cell?_alloc_new]; rfl
      | 1, _ => rw [Nat.zero_add, World.cell?_alloc_new]; rfl⟩
    exact h1.keep (bk_alloc (BK.refl _) _)
  have HT := Lib.hid (fun wc (hb : BK w wc) => ht.keep hb)
  clear ht
  go_enter Tryd.func12, Tryd.ntmps12
  go_wp2_with fail
  generalize (w.alloc (.cells #[.int .i64 3, .int .i64 4] 3)).alloc (.cells #[.int .i64 8, .int .i64 8, .int .u64 0, .string ⟨#[]⟩, .slice (some ⟨w.heap.size, 0, none⟩) 2 2] 26) = w0 at hk0 hx hsz hra ⊢
  refine (canon_any 8 8 0 ⟨#[]⟩ (some ⟨w.heap.size, 0, none⟩) 2 [3, 4] w0 hra (by simp)).mono ?_
  rintro e w1 ⟨p1, c1, rfl, ho1, hb1⟩
  rw [show mapL [3, 4] [(3 : Int), 4].length = [3, 1] by decide] at ho1
  obtain ⟨b, off, rfl, hlb, hcell⟩ := (Ra.own (zs := [3, 1]) ho1) (by simp)
  have q0 := hcell 0 (by simp)
  have q1 := hcell 1 (by simp)
  simp at q0 q1
  have hx1 := hx.keep hb1 (by omega)
  have hn1 := nd34 w1 _ (hra.keep hb1)
  have hk1 := bk_tr hk0 hb1
  have hz1 : w.heap.size + 1 < w1.heap.size := by have := bk_size hb1; omega
  clear hk0 hx hra hb1 ho1 hcell hsz
  have hc1 := b5_new w1 (.int .i64 8) (.int .i64 8) (.int .u64 0) (.string ⟨#[]⟩) (.slice (some ⟨b, off, none⟩) 2 c1) 26
  have hx2 := hx1.keep (bk_alloc (BK.refl w1) (.cells #[.int .i64 8, .int .i64 8, .int .u64 0, .string ⟨#[]⟩, .slice (some ⟨b, off, none⟩) 2 c1] 26)) hz1
  have hn2 := hn1.keep (bk_alloc (BK.refl w1) (.cells #[.int .i64 8, .int .i64 8, .int .u64 0, .string ⟨#[]⟩, .slice (some ⟨b, off, none⟩) 2 c1] 26))
  have hk2 := bk_alloc hk1 (.cells #[.int .i64 8, .int .i64 8, .int .u64 0, .string ⟨#[]⟩, .slice (some ⟨b, off, none⟩) 2 c1] 26)
  have r0 := ((Below.refl w1.heap.size w1).alloc (Nat.le_refl _) (.cells #[.int .i64 8, .int .i64 8, .int .u64 0, .string ⟨#[]⟩, .slice (some ⟨b, off, none⟩) 2 c1] 26)).cell (p := ⟨b, off, none⟩) hlb |>.trans q0
  have r1 := ((Below.refl w1.heap.size w1).alloc (Nat.le_refl _) (.cells #[.int .i64 8, .int .i64 8, .int .u64 0, .string ⟨#[]⟩, .slice (some ⟨b, off, none⟩) 2 c1] 26)).cell (p := ⟨b, off + 1, none⟩) hlb |>.trans q1
  have hs2 : (w1.alloc (.cells #[.int .i64 8, .int .i64 8, .int .u64 0, .string ⟨#[]⟩, .slice (some ⟨b, off, none⟩) 2 c1] 26)).heap.size = w1.heap.size + 1 := by simp
  clear hx1 hn1 hk1 q0 q1
  go_wp2_with fail
  generalize w1.alloc (.cells #[.int .i64 8, .int .i64 8, .int .u64 0, .string ⟨#[]⟩, .slice (some ⟨b, off, none⟩) 2 c1] 26) = w2 at hc1 hx2 hn2 hk2 r0 r1 hs2 ⊢
  refine (new_ex w.heap.size w2 (bk_size hk2)).mono ?_
  rintro e w3 ⟨tb, mb, rfl, T3, hb3⟩
  have hx3 := hx2.keep hb3 (by omega)
  have hn3 := hn2.keep hb3
  have hk3 := bk_tr hk2 hb3
  obtain ⟨_, _, _, _, y4⟩ := hc1.keep hb3 (by omega)
  have hlb2 : b < w2.heap.size := by omega
  have s0 := (show Below w2.heap.size w2 w3 from hb3).cell (p := ⟨b, off, none⟩) hlb2 |>.trans r0
  have s1 := (show Below w2.heap.size w2 w3 from hb3).cell (p := ⟨b, off + 1, none⟩) hlb2 |>.trans r1
  obtain ⟨x0, x1, x2, x3, x4⟩ := hx3
  have K3 := Lib.hid hk3
  have N3 := Lib.hid hn3
  have TT3 := Lib.hid T3
  clear hc1 hx2 hn2 hk2 r0 r1 hb3 hn3 hk3 T3
  go_wp2_with fail
  have hx3 : B5 w3 (w.heap.size + 1) (.int .i64 8) (.int .i64 8) (.int .u64 0) (.string ⟨#[]⟩) (.slice (some ⟨w.heap.size, 0, none⟩) 2 2) := ⟨x0, x1, x2, x3, x4⟩
  clear x0 x1 x2 x3 x4 s0 s1 y4
  refine (put_new w.heap.size tb mb 0 (.map []) 8 8 0 ⟨#[]⟩ (some ⟨w.heap.size, 0, none⟩) 2 [3, 4] 7 w3 (HT.out _ K3.out) N3.out TT3.out rfl (bk_size K3.out) (by simp [maxLen])).mono ?_
  rintro e w4 ⟨rfl, T4, f4⟩
  have hKl := key_len N3.out
  generalize hKK : keyL 8 8 0 ⟨#[]⟩ [3, 4] = K at T4 hKl
  have HKK := Lib.hid hKK
  rw [put1] at T4
  have hx4 := f4.b5 TT3.out.map hx3
  have hn4 := f4.nd TT3.out.map N3.out
  have hk4 : BK w w4 := Below.trans (show Below w.heap.size w w3 from K3.out) (f4.below (bk_size K3.out) TT3.out.lo)
  have K4 := Lib.hid hk4
  have N4 := Lib.hid hn4
  have TT4 := Lib.hid T4
  have X4 := Lib.hid hx4
  obtain ⟨x0, x1, x2, x3, x4⟩ := hx4
  clear hx3 f4 hn4 hk4 T4 hKK
  go_wp2_with fail
  clear x0 x1 x2 x3 x4
  refine (put_old w.heap.size tb mb 1 (D1 K 7) 8 8 0 ⟨#[]⟩ (some ⟨w.heap.size, 0, none⟩) 2 [3, 4] 8 w4 (HT.out _ K4.out) N4.out TT4.out (by rw [HKK.out]; exact has1 K 7 hKl)).mono ?_
  rintro e w5 ⟨rfl, hb5⟩
  have hlt4 : w.heap.size + 1 < w4.heap.size := World.block_lt_of_cell? w4 _ X4.out.1
  have K5 := Lib.hid (bk_tr K4.out hb5)
  have N5 := Lib.hid (N4.out.keep hb5)
  have T5 := Lib.hid (TT4.out.keep hb5)
  have X5 := Lib.hid (X4.out.keep hb5 hlt4)
  obtain ⟨x0, x1, x2, x3, x4⟩ := X5.out
  clear hb5
  go_wp2_with fail
  clear x0 x1 x2 x3 x4
  refine (get_any w.heap.size tb mb 1 (D1 K 7) 8 8 0 ⟨#[]⟩ (some ⟨w.heap.size, 0, none⟩) 2 [3, 4] w5 (HT.out _ K5.out) N5.out T5.out).mono ?_
  rintro e w6 ⟨id, rfl, hid, hb6⟩
  rw [HKK.out, at1 K 7 hKl] at hid
  obtain rfl : (7 : Int) = id := by simpa using hid
  rw [HKK.out, has1 K 7 hKl]
  have hlt5 : w.heap.size + 1 < w5.heap.size := World.block_lt_of_cell? w5 _ X5.out.1
  have K6 := Lib.hid (bk_tr K5.out hb6)
  have N6 := Lib.hid (N5.out.keep hb6)
  have T6 := Lib.hid (T5.out.keep hb6)
  have X6 := Lib.hid (X5.out.keep hb6 hlt5)
  clear hb6 hid
  go_wp2_with fail
  refine (len_any w.heap.size tb mb 1 (D1 K 7) w6 T6.out).mono ?_
  rintro e w' ⟨rfl, rfl⟩
  rw [size1]
  obtain ⟨x0, x1, x2, x3, x4⟩ := X6.out
  go_wp2_with fail
  clear x0 x1 x2 x3 x4
  refine (del_any w.heap.size tb mb 1 (D1 K 7) 8 8 0 ⟨#[]⟩ (some ⟨w.heap.size, 0, none⟩) 2 [3, 4] w6 (HT.out _ K6.out) N6.out T6.out (bk_size K6.out)).mono ?_
  rintro e w7 ⟨rfl, T7, f7⟩
  rw [HKK.out, del1 K 7 hKl] at T7
  rw [HKK.out, has1 K 7 hKl]
  have K7 := Lib.hid (show BK w w7 from Below.trans (show Below w.heap.size w w6 from K6.out) (f7.below (bk_size K6.out) T6.out.lo))
  have TT7 := Lib.hid T7
  clear f7 T7
  go_wp2_with fail
  refine (len_any w.heap.size tb mb 1 (.map []) w7 TT7.out).mono ?_
  rintro e w' ⟨rfl, rfl⟩
  rw [show (Maps.size (DataW.map (H := Unit) []) : Nat) = 0 from rfl]
  go_wp2_with fail
  go_ret
  exact ⟨rfl, K7.out⟩
end Go.Proofs.YtclefcjojlkcnaaDoor
