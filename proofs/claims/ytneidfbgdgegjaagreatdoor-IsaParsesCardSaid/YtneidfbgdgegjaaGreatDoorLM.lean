/- Programs checked. -/
import Derived.Test.YtneidfbgdgegjaaGreatDoorLL
namespace Go.Proofs.YtneidfbgdgegjaaGreatDoor
open Go.RowKit
set_option linter.unusedVariables false
set_option linter.unusedSimpArgs false
theorem firstE_drop (m R : Int) (l : List I6) (k : Nat) (h : k < l.length) : firstE m R (l.drop k) = if insE m R l[k] = 0 then firstE m R (l.drop (k + 1)) else insE m R l[k] := by
  rw [List.drop_eq_getElem_cons h]; rfl
def CP (w : World) (k x : Int) (e : Ending) (w' : World) : Prop := e = .returned (.tuple #[.int .i64 k, .int .i64 x]) ∧ BK w w'
theorem firstK_drop (m R : Int) (l : List I6) (j k : Nat) (h : k < l.length) : firstK m R j (l.drop k) = if insE m R l[k] = 0 then firstK m R (j + 1) (l.drop (k + 1)) else j := by
  rw [List.drop_eq_getElem_cons h]; rfl
set_option maxRecDepth 100000 in
set_option maxHeartbeats 1000000 in
theorem chk53_a (W R : Int) (p q : Option Addr) (pc qc : Nat) (ins : List I6) (out : List Int) (w : World) (hi : RI w p pc ins) (ho : RO w q qc out) (li : ins.length ≤ 1000000) (lo : out.length ≤ 1000000) (hb : W < 1 ∨ 64 < W) : Calls Tryz.prog 23 #[.agg #[.int .i64 W, .int .i64 R, .slice p ins.length pc, .slice q out.length qc]] w (CP w (-1) 3) := by
  have HK := Lib.hid (bk_alloc (BK.refl w) (.cells #[.int .i64 W, .int .i64 R, .slice p ins.length pc, .slice q out.length qc] 34))
  rcases hb with hb | hb
  all_goals
    go_enter Tryz.func23, Tryz.ntmps23
    go_wp2_with fail
    go_ret2
    exact ⟨rfl, HK.out⟩
set_option maxRecDepth 100000 in
set_option maxHeartbeats 1000000 in
theorem chk53_b (W R : Int) (p q : Option Addr) (pc qc : Nat) (ins : List I6) (out : List Int) (w : World) (hi : RI w p pc ins) (ho : RO w q qc out) (li : ins.length ≤ 1000000) (lo : out.length ≤ 1000000) (w1 : 1 ≤ W) (w2 : W ≤ 64) (hb : R < 1 ∨ 8 < R) : Calls Tryz.prog 23 #[.agg #[.int .i64 W, .int .i64 R, .slice p ins.length pc, .slice q out.length qc]] w (CP w (-1) 18) := by
  have HK := Lib.hid (bk_alloc (BK.refl w) (.cells #[.int .i64 W, .int .i64 R, .slice p ins.length pc, .slice q out.length qc] 34))
  rcases hb with hb | hb
  all_goals
    go_enter Tryz.func23, Tryz.ntmps23
    go_wp2_with fail
    go_ret2
    exact ⟨rfl, HK.out⟩
set_option maxRecDepth 100000 in
set_option maxHeartbeats 1000000 in
theorem chk53_c (W R : Int) (p q : Option Addr) (pc qc : Nat) (ins : List I6) (out : List Int) (w : World) (hi : RI w p pc ins) (ho : RO w q qc out) (li : ins.length ≤ 1000000) (lo : out.length ≤ 1000000) (w1 : 1 ≤ W) (w2 : W ≤ 64) (r1 : 1 ≤ R) (r2 : R ≤ 8) (hb : 256 < ins.length) : Calls Tryz.prog 23 #[.agg #[.int .i64 W, .int .i64 R, .slice p ins.length pc, .slice q out.length qc]] w (CP w (-1) 7) := by
  have HK := Lib.hid (bk_alloc (BK.refl w) (.cells #[.int .i64 W, .int .i64 R, .slice p ins.length pc, .slice q out.length qc] 34))
  go_enter Tryz.func23, Tryz.ntmps23
  go_wp2_with fail
  go_ret2
  exact ⟨rfl, HK.out⟩
set_option maxRecDepth 100000 in
set_option maxHeartbeats 1000000 in
theorem chk53_d (W R : Int) (p q : Option Addr) (pc qc : Nat) (ins : List I6) (out : List Int) (w : World) (hi : RI w p pc ins) (ho : RO w q qc out) (li : ins.length ≤ 1000000) (lo : out.length ≤ 1000000) (w1 : 1 ≤ W) (w2 : W ≤ 64) (r1 : 1 ≤ R) (r2 : R ≤ 8) (hb : ins.length ≤ 256) :
    Calls Tryz.prog 23 #[.agg #[.int .i64 W, .int .i64 R, .slice p ins.length pc, .slice q out.length qc]] w (CP w (if firstE (maskI W) R ins = 0 then (if outE R out = 0 then 0 else -1) else (firstK (maskI W) R 0 ins : Int)) (if firstE (maskI W) R ins = 0 then outE R out else firstE (maskI W) R ins)) := by
  have b4 := b4_new w (.int .i64 W) (.int .i64 R) (.slice p ins.length pc) (.slice q out.length qc) 34
  have hk := bk_alloc (BK.refl w) (.cells #[.int .i64 W, .int .i64 R, .slice p ins.length pc, .slice q out.length qc] 34)
  have HI := Lib.hid hi
  have HO := Lib.hid ho
  have HZ := Lib.hid (show firstE (maskI W) R (ins.drop ins.length) = 0 by rw [List.drop_length]; rfl)
  have C81 := Lib.hid (fun (i : I6) (wc : World) => chk81 W R p q ins.length pc out.length qc i wc w1 w2)
  have C82 := Lib.hid (fun (wc : World) (hb : BK w wc) => out82 W R p q pc qc ins out wc (ho.keep hb) lo r2)
  clear hi ho
  generalize maskI W = mk at HZ C81 ⊢
  have HY := Lib.hid (show (if firstE mk R ins = 0 then outE R out else firstE mk R ins) = (if firstE mk R ins = 0 then outE R out else firstE mk R ins) from rfl)
  generalize hy : (if firstE mk R ins = 0 then outE R out else firstE mk R ins) = y at HY ⊢
  clear HY
  have HY := Lib.hid hy
  clear hy
  generalize hyk : (if firstE mk R ins = 0 then (if outE R out = 0 then 0 else -1) else (firstK mk R 0 ins : Int)) = yk
  have HYK := Lib.hid hyk
  clear hyk
  go_enter Tryz.func23, Tryz.ntmps23
  go_wp2_with fail
  generalize w.alloc (.cells #[.int .i64 W, .int .i64 R, .slice p ins.length pc, .slice q out.length qc] 34) = w0 at b4 hk ⊢
  have H4 := Lib.hid (fun wc (hb : BK w0 wc) => b4.keep hb)
  have HK := Lib.hid hk
  clear b4 hk
  go_loopw [34] (fun i wr => ∃ k : Nat, k ≤ ins.length ∧ i = .int .i64 k ∧ Hid (firstE mk R ins = firstE mk R (ins.drop k) ∧ firstK mk R 0 ins = firstK mk R k (ins.drop k)) ∧ BK w0 wr) (fun i _ => ins.length - (intOf i).toNat)
  case atStart => exact ⟨0, Nat.zero_le _, rfl, Lib.hid ⟨rfl, rfl⟩, BK.refl _⟩
  case round =>
    obtain ⟨k, hkk, rfl, hs, hkw⟩ := hrel
    have HK0 := Lib.hid hkw
    obtain ⟨c0, c1, c2, c3⟩ := H4.out _ hkw
    have hz : w.heap.size < wr.heap.size := World.block_lt_of_cell? wr _ c0
    by_cases hlt : k < ins.length
    · have HS := Lib.hid (hs.out.1.trans (firstE_drop mk R ins k hlt))
      have HSK := Lib.hid (hs.out.2.trans (firstK_drop mk R ins k k hlt))
      obtain ⟨b, o, rfl, hc⟩ := (HI.out.keep (bk_tr HK.out hkw)).get k hlt
      clear hs hkw
      generalize ins[k] = i at hc HS HSK
      obtain ⟨d0, d1, d2, d3, d4, d5⟩ := hc
      have R81 := Lib.hid (C81.out i (wr.alloc (.cells #[.int .i64 i.op, .int .i64 i.dst, .int .i64 i.a, .int .i64 i.b, .int .i64 i.c, .int .u64 i.imm] 42)))
      have KA := Lib.hid (bk_alloc HK0.out (.cells #[.int .i64 i.op, .int .i64 i.dst, .int .i64 i.a, .int .i64 i.b, .int .i64 i.c, .int .u64 i.imm] 42))
      generalize insE mk R i = x at HS HSK R81
      by_cases hx : x = 0
      · subst hx
        have H1 := Lib.hid (And.intro (HS.out.trans (if_pos rfl)) (HSK.out.trans (if_pos rfl)))
        go_wp2_with fail
        refine R81.out.mono ?_
        rintro e w1 ⟨rfl, hb1⟩
        have K1 := Lib.hid (bk_tr KA.out hb1)
        clear hb1
        go_wp2_with fail
        go_roundw
        case rel => exact ⟨k + 1, by omega, by go_num, Lib.hid H1.out, K1.out⟩
        case measure => simp [intOf]; omega
      · have H1 := Lib.hid (HS.out.trans (if_neg hx))
        have H1K := Lib.hid (HSK.out.trans (if_neg hx))
        have hn : (x != 0) = true := by simpa using hx
        have hx' := Lib.hid hx
        clear hx
        go_wp2_with fail
        refine R81.out.mono ?_
        rintro e w1 ⟨rfl, hb1⟩
        have K1 := Lib.hid (bk_tr KA.out hb1)
        clear hb1
        go_wp2_with fail
        go_ret2
        exact ⟨by rw [← HY.out, ← HYK.out, H1.out, if_neg hx'.out, if_neg hx'.out, H1K.out]; rfl, bk_tr HK.out K1.out⟩
    · obtain rfl : k = ins.length := by omega
      have H1 := Lib.hid (hs.out.1.trans HZ.out)
      have R82 := Lib.hid (C82.out wr (bk_tr HK.out hkw))
      clear hs hkw
      have HP := Lib.hid (HY.out.symm.trans (if_pos H1.out))
      have HPK := Lib.hid (HYK.out.symm.trans (if_pos H1.out))
      generalize outE R out = x at R82 HP HPK
      by_cases hx : x = 0
      · subst hx
        go_wp2_with fail
        refine R82.out.mono ?_
        rintro e w1 ⟨rfl, hb1⟩
        have K1 := Lib.hid (bk_tr HK0.out hb1)
        clear hb1
        go_wp2_with fail
        go_ret2
        exact ⟨by rw [HP.out, show yk = 0 from HPK.out.trans (by simp)]; rfl, bk_tr HK.out K1.out⟩
      · have hn : (x != 0) = true := by simpa using hx
        have HNX := Lib.hid hx
        clear hx
        go_wp2_with fail
        refine R82.out.mono ?_
        rintro e w1 ⟨rfl, hb1⟩
        have K1 := Lib.hid (bk_tr HK0.out hb1)
        clear hb1
        go_wp2_with fail
        go_ret2
        exact ⟨by rw [HP.out, show yk = -1 from HPK.out.trans (by simp [HNX.out])]; rfl, bk_tr HK.out K1.out⟩
theorem chk53 (W R : Int) (p q : Option Addr) (pc qc : Nat) (ins : List I6) (out : List Int) (w : World) (hi : RI w p pc ins) (ho : RO w q qc out) (li : ins.length ≤ 1000000) (lo : out.length ≤ 1000000) : Calls Tryz.prog 23 #[.agg #[.int .i64 W, .int .i64 R, .slice p ins.length pc, .slice q out.length qc]] w (CP w (chkK W R ins out) (chkE W R ins out)) := by
  unfold chkE chkK
  split
  · exact chk53_a W R p q pc qc ins out w hi ho li lo ‹_›
  · split
    · exact chk53_b W R p q pc qc ins out w hi ho li lo (by omega) (by omega) ‹_›
    · split
      · exact chk53_c W R p q pc qc ins out w hi ho li lo (by omega) (by omega) (by omega) (by omega) ‹_›
      · exact chk53_d W R p q pc qc ins out w hi ho li lo (by omega) (by omega) (by omega) (by omega) (by omega)
end Go.Proofs.YtneidfbgdgegjaaGreatDoor
