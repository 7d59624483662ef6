/- Light: lists of steps. -/
import Derived.Test.YtnlpiaejfmdckaaDoorSB
namespace Go.Proofs.YtnlpiaejfmdckaaDoor
open Go.RowKit
set_option linter.unusedVariables false
set_option linter.unusedSimpArgs false
def zc : Obj := .cells #[.int .i64 0, .int .i64 0, .int .u64 0, .string ⟨#[]⟩, .slice none 0 0] 42
/-- a blank that takes a term -/
theorem blank (w : World) (x0 x1 x2 x3 x4 : Value) : BK w ((((((w.alloc (.cells #[.int .i64 0, .int .i64 0, .int .u64 0, .string ⟨#[]⟩, .slice none 0 0] 42)).setCell ⟨w.heap.size, 0, none⟩ x0).setCell ⟨w.heap.size, 1, none⟩ x1).setCell ⟨w.heap.size, 2, none⟩ x2).setCell ⟨w.heap.size, 3, none⟩ x3).setCell ⟨w.heap.size, 4, none⟩ x4) := by
  have h := put5_bk (bk_alloc (BK.refl w) zc) w.heap.size 0 x0 x1 x2 x3 x4 (Nat.le_refl _)
  exact h
theorem blank_c (w : World) : C5 (w.alloc (.cells #[.int .i64 0, .int .i64 0, .int .u64 0, .string ⟨#[]⟩, .slice none 0 0] 42)) w.heap.size 0 (.int .i64 0) (.int .i64 0) (.int .u64 0) (.string ⟨#[]⟩) (.slice none 0 0) := b5_new w _ _ _ _ _ 42
theorem blank_f (w : World) (j : Nat) : (w.alloc (.cells #[.int .i64 0, .int .i64 0, .int .u64 0, .string ⟨#[]⟩, .slice none 0 0] 42)).frozen? ⟨w.heap.size, j, none⟩ = false := frozen_of_row _ _ j _ 42 (heap_alloc_new w _)
def okA (ss : List S) : Prop := ss.length ≤ 60 ∧ ∀ s ∈ ss, okQ s
set_option maxRecDepth 100000 in
set_option maxHeartbeats 8000000 in
theorem light13 (ss : List S) (hlb : ∀ s ∈ ss, lbS s) (w : World) (p : Option Addr) (c : Nat) (hp : RowS (mem 0 w) w p c ss) :
    Calls Tryd.prog 13 #[.slice p ss.length c, .int .i64 60] w fun e w' => (∃ b : Bool, e = .returned (.bool b) ∧ (b = true → okA ss)) ∧ BK w w' := by
  by_cases h1 : 60 < ss.length
  · have h1' : (60 : Int) < (ss.length : Int) := by omega
    clear hp hlb h1
    unfold okA
    generalize ss.length = n at *
    go_enter Tryd.func13, Tryd.ntmps13
    go_wp2_with fail
    go_ret
    exact ⟨⟨false, rfl, fun h => by cases h⟩, BK.refl _⟩
  · have h1' : ¬ (60 : Int) < (ss.length : Int) := by omega
    have HL := Lib.hid (show ss.length ≤ 60 from by omega)
    have HP := Lib.hid hp
    have LB := Lib.hid hlb
    clear hp hlb h1
    unfold okA
    go_enter Tryd.func13, Tryd.ntmps13
    go_wp2_with fail
    clear h1'
    go_loopw [5] (fun iv wr => ∃ k : Nat, k ≤ ss.length ∧ iv = .int .i64 (k : Int) ∧ (∀ s ∈ ss.take k, okQ s) ∧ BK w wr) (fun iv _ => ss.length - (intOf iv).toNat)
    case atStart => exact ⟨0, Nat.zero_le _, rfl, fun s hs => by simp at hs, BK.refl _⟩
    case round =>
      obtain ⟨k, hk, rfl, hq, hb⟩ := hrel
      have HQ := Lib.hid hq
      have KB := Lib.hid hb
      clear hq hb
      by_cases e : k = ss.length
      · have hd : decide (k < ss.length) = false := by simp [e]
        have HE := Lib.hid e
        go_wp2_with fail
        go_ret
        exact ⟨⟨true, rfl, fun _ => ⟨HL.out, by have := HQ.out; rw [HE.out, List.take_length] at this; exact this⟩⟩, KB.out⟩
      · have hlt : k < ss.length := by omega
        have hd : decide (k < ss.length) = true := by simpa using hlt
        have hki : (k : Int) < (ss.length : Int) := by omega
        have ei : IntKind.i64.wrap ((k : Int) + 1) = (k : Int) + 1 := by have := HL.out; exact IntWalk.i64_in _ (by omega)
        obtain ⟨b, o, q, rfl, -, hc, hps⟩ := (HP.out.bk KB.out (Nat.le_refl _)).get hlt
        have HLT := Lib.hid hlt
        have TK := Lib.hid (show ∀ s, s ∈ ss.take (k + 1) → s = ss[k] ∨ s ∈ ss.take k from fun s hs => by
          rw [List.take_add_one, List.getElem?_eq_getElem hlt] at hs
          rcases List.mem_append.1 hs with h | h
          · exact .inr h
          · simp at h; exact .inl h)
        have LBS := LB.out _ (List.getElem_mem hlt)
        generalize hS : ss[k] = s at *
        clear hS
        obtain ⟨p1, c1, p2, c2, p3, c3, p4, c4⟩ := q
        obtain ⟨kk, rf, ru, sb, ⟨op1, wd1, vl1, nm1, ts1⟩, ⟨op2, wd2, vl2, nm2, ts2⟩⟩ := s
        obtain ⟨⟨l1, -⟩, ⟨l2, l3⟩, l4, l5⟩ := LBS
        have L1 := Lib.hid (And.intro l1 l2)
        have L3 := Lib.hid l3
        have hpa := hps.a
        have hpb := hps.b
        have hsb := hps.sb
        have HB := Lib.hid (fun wc (hb : BK wr wc) => hpb.bk hb (Nat.le_refl _))
        have HSB := Lib.hid (fun wc (hb : BK wr wc) => hsb.bk hb (Nat.le_refl _))
        have HC := Lib.hid (fun wc (hb : BK wr wc) => hc.bk hb (by simp [cS]))
        have C33 := Lib.hid (light33 op1 wd1 vl1 nm1 ts1 l4 wr p3 c3 hpa)
        have D33 := Lib.hid (fun wc (hb : BK wr wc) => light33 op2 wd2 vl2 nm2 ts2 l5 wc p4 c4 (HB.out _ hb))
        have z4 : wr.cell? ⟨b, o + k * 14 + 4, none⟩ = some (.int .i64 op1) := hc 4 _ rfl
        have z5 : wr.cell? ⟨b, o + k * 14 + 5, none⟩ = some (.int .i64 wd1) := hc 5 _ rfl
        have z6 : wr.cell? ⟨b, o + k * 14 + 6, none⟩ = some (.int .u64 vl1) := hc 6 _ rfl
        have z7 : wr.cell? ⟨b, o + k * 14 + 7, none⟩ = some (.string nm1) := hc 7 _ rfl
        have z8 : wr.cell? ⟨b, o + k * 14 + 8, none⟩ = some (.slice p3 ts1.length c3) := hc 8 _ rfl
        clear hps hpa hpb hsb hc l1 l2 l3 l4 l5 e HP LB
        go_wp2_with fail
        refine C33.out.mono ?_
        rintro e w2 ⟨⟨u0, u1, u2, u3, u4, u5, u6, a, rfl, ha⟩, hb2⟩
        have HA := Lib.hid ha
        have K2 := Lib.hid (bk_tr hb2 (bk_alloc (BK.refl w2) (.cells #[.int .i64 u0, .int .i64 u1, .int .u64 u2, .string u3, .slice u4 u5 u6] 42)))
        have E33 := Lib.hid (D33.out _ K2.out)
        have y9 : (w2.alloc (.cells #[.int .i64 u0, .int .i64 u1, .int .u64 u2, .string u3, .slice u4 u5 u6] 42)).cell? ⟨b, o + k * 14 + 9, none⟩ = some (.int .i64 op2) := HC.out _ K2.out 9 _ rfl
        have y10 : (w2.alloc (.cells #[.int .i64 u0, .int .i64 u1, .int .u64 u2, .string u3, .slice u4 u5 u6] 42)).cell? ⟨b, o + k * 14 + 10, none⟩ = some (.int .i64 wd2) := HC.out _ K2.out 10 _ rfl
        have y11 : (w2.alloc (.cells #[.int .i64 u0, .int .i64 u1, .int .u64 u2, .string u3, .slice u4 u5 u6] 42)).cell? ⟨b, o + k * 14 + 11, none⟩ = some (.int .u64 vl2) := HC.out _ K2.out 11 _ rfl
        have y12 : (w2.alloc (.cells #[.int .i64 u0, .int .i64 u1, .int .u64 u2, .string u3, .slice u4 u5 u6] 42)).cell? ⟨b, o + k * 14 + 12, none⟩ = some (.string nm2) := HC.out _ K2.out 12 _ rfl
        have y13 : (w2.alloc (.cells #[.int .i64 u0, .int .i64 u1, .int .u64 u2, .string u3, .slice u4 u5 u6] 42)).cell? ⟨b, o + k * 14 + 13, none⟩ = some (.slice p4 ts2.length c4) := HC.out _ K2.out 13 _ rfl
        obtain ⟨n0, n1, n2, n3, n4⟩ := blank_c w2
        have f0 := blank_f w2 0
        have f1 := blank_f w2 1
        have f2 := blank_f w2 2
        have f3 := blank_f w2 3
        have f4 := blank_f w2 4
        simp only [Nat.zero_add] at n0 n1 n2 n3 n4
        clear hb2 ha z4 z5 z6 z7 z8 C33 D33
        go_wp2_with fail
        clear n0 n1 n2 n3 n4 f0 f1 f2 f3 f4
        refine E33.out.mono ?_
        rintro e w3 ⟨⟨v0, v1, v2, v3, v4, v5, v6, bb, rfl, hbb⟩, hb3⟩
        have HBB := Lib.hid hbb
        have K3 := Lib.hid (bk_tr K2.out (bk_tr hb3 (bk_alloc (BK.refl w3) (.cells #[.int .i64 v0, .int .i64 v1, .int .u64 v2, .string v3, .slice v4 v5 v6] 42))))
        have x1 : (w3.alloc (.cells #[.int .i64 v0, .int .i64 v1, .int .u64 v2, .string v3, .slice v4 v5 v6] 42)).cell? ⟨b, o + k * 14 + 1, none⟩ = some (.slice p1 rf.length c1) := HC.out _ K3.out 1 _ rfl
        have x3 : (w3.alloc (.cells #[.int .i64 v0, .int .i64 v1, .int .u64 v2, .string v3, .slice v4 v5 v6] 42)).cell? ⟨b, o + k * 14 + 3, none⟩ = some (.slice p2 sb.length c2) := HC.out _ K3.out 3 _ rfl
        obtain ⟨n0, n1, n2, n3, n4⟩ := blank_c w3
        have f0 := blank_f w3 0
        have f1 := blank_f w3 1
        have f2 := blank_f w3 2
        have f3 := blank_f w3 3
        have f4 := blank_f w3 4
        simp only [Nat.zero_add] at n0 n1 n2 n3 n4
        clear hb3 hbb y9 y10 y11 y12 y13 E33
        cases a with
        | false =>
          go_wp2_with fail
          go_ret
          exact ⟨⟨false, rfl, fun h => by cases h⟩, bk_tr KB.out K3.out⟩
        | true =>
          cases bb with
          | false =>
            go_wp2_with fail
            go_ret
            exact ⟨⟨false, rfl, fun h => by cases h⟩, bk_tr KB.out K3.out⟩
          | true =>
            by_cases h16 : 16 < rf.length
            · have hd6 : decide (16 < rf.length) = true := decide_eq_true h16
              have hi6 : (16 : Int) < (rf.length : Int) := by omega
              go_wp2_with fail
              go_ret
              exact ⟨⟨false, rfl, fun h => by cases h⟩, bk_tr KB.out K3.out⟩
            · have hd6 : decide (16 < rf.length) = false := decide_eq_false h16
              have hi6 : ¬ (16 : Int) < (rf.length : Int) := by omega
              by_cases h17 : 16 < sb.length
              · have hd7 : decide (16 < sb.length) = true := decide_eq_true h17
                have hi7 : (16 : Int) < (sb.length : Int) := by omega
                go_wp2_with fail
                go_ret
                exact ⟨⟨false, rfl, fun h => by cases h⟩, bk_tr KB.out K3.out⟩
              · have hd7 : decide (16 < sb.length) = false := decide_eq_false h17
                have hi7 : ¬ (16 : Int) < (sb.length : Int) := by omega
                have H16 := Lib.hid (And.intro h16 h17)
                clear h16 h17
                go_wp2_with fail
                clear n0 n1 n2 n3 n4 f0 f1 f2 f3 f4 x1 x3
                generalize (w3.alloc (.cells #[.int .i64 v0, .int .i64 v1, .int .u64 v2, .string v3, .slice v4 v5 v6] 42)) = wB at *
                go_loopw [10] (fun jv wi => ∃ j : Nat, j ≤ sb.length ∧ jv = .int .i64 (j : Int) ∧ (∀ u ∈ sb.take j, smT u.t) ∧ BK wr wi) (fun jv _ => sb.length - (intOf jv).toNat)
                case atStart => exact ⟨0, Nat.zero_le _, rfl, fun u hu => by simp at hu, K3.out⟩
                case round =>
                  obtain ⟨j, hj, rfl, hqj, hbj⟩ := hrel
                  have HQJ := Lib.hid hqj
                  have KJ := Lib.hid hbj
                  have x3 : wr.cell? ⟨b, o + k * 14 + 3, none⟩ = some (.slice p2 sb.length c2) := HC.out _ KJ.out 3 _ rfl
                  clear hqj hbj
                  by_cases ej : j = sb.length
                  · have hdj : decide (j < sb.length) = false := by simp [ej]
                    have EJ := Lib.hid ej
                    go_wp2_with fail
                    go_roundw
                    case rel => exact ⟨k + 1, by have := HLT.out; omega, by go_num, fun s hs => by
                      rcases TK.out s hs with h | h
                      · rw [h]
                        have := HQJ.out
                        rw [EJ.out, List.take_length] at this
                        have h16 := H16.out
                        exact ⟨by show rf.length ≤ 100000; omega, by show sb.length ≤ 100000; omega, this, HA.out (by trivial), HBB.out (by trivial)⟩
                      · exact HQ.out s h, bk_tr KB.out KJ.out⟩
                    case measure => have := HLT.out; simp [intOf]; omega
                  · have hltj : j < sb.length := by omega
                    have hdj : decide (j < sb.length) = true := by simpa using hltj
                    have hkj : (j : Int) < (sb.length : Int) := by omega
                    have ej1 : IntKind.i64.wrap ((j : Int) + 1) = (j : Int) + 1 := by have := H16.out; exact IntWalk.i64_in _ (by omega)
                    have HLTJ := Lib.hid hltj
                    have TJ := Lib.hid (show ∀ u, u ∈ sb.take (j + 1) → u = sb[j] ∨ u ∈ sb.take j from fun s hs => by
                      rw [List.take_add_one, List.getElem?_eq_getElem hltj] at hs
                      rcases List.mem_append.1 hs with h | h
                      · exact .inr h
                      · simp at h; exact .inl h)
                    have LBU := L3.out _ (List.getElem_mem hltj)
                    rcases HSB.out _ KJ.out with ⟨h0, -⟩ | ⟨b', o', rfl, hb', hat, -⟩
                    · omega
                    obtain ⟨p5, c5, ⟨a0, a1, a2, a3, a4, a5⟩, hr5⟩ := hat j hltj
                    have HAT := Lib.hid (fun wc (hb : BK wr wc) => cellBk a0 hb)
                    clear hat
                    generalize sb[j] = u at *
                    obtain ⟨unm, ⟨op5, wd5, vl5, nm5, ts5⟩⟩ := u
                    have b1 : wr.cell? ⟨b', o' + j * 6 + 1, none⟩ = some (.int .i64 op5) := a1
                    have b2 : wr.cell? ⟨b', o' + j * 6 + 2, none⟩ = some (.int .i64 wd5) := a2
                    have b3 : wr.cell? ⟨b', o' + j * 6 + 3, none⟩ = some (.int .u64 vl5) := a3
                    have b4 : wr.cell? ⟨b', o' + j * 6 + 4, none⟩ = some (.string nm5) := a4
                    have b5 : wr.cell? ⟨b', o' + j * 6 + 5, none⟩ = some (.slice p5 ts5.length c5) := a5
                    have C33 := Lib.hid (light33 op5 wd5 vl5 nm5 ts5 LBU.2 wr p5 c5 hr5)
                    clear a0 a1 a2 a3 a4 a5 hr5 hb' LBU ej
                    go_wp2_with fail
                    refine C33.out.mono ?_
                    rintro e w4 ⟨⟨t0, t1, t2, t3, t4, t5, t6, cc, rfl, hcc⟩, hb4⟩
                    have HCC := Lib.hid hcc
                    have K4' := Lib.hid (bk_tr hb4 (bk_alloc (BK.refl w4) (.cells #[.int .i64 t0, .int .i64 t1, .int .u64 t2, .string t3, .slice t4 t5 t6] 42)))
                    have K4 := Lib.hid (bk_tr KJ.out K4'.out)
                    have x3' : (w4.alloc (.cells #[.int .i64 t0, .int .i64 t1, .int .u64 t2, .string t3, .slice t4 t5 t6] 42)).cell? ⟨b, o + k * 14 + 3, none⟩ = some (.slice (some ⟨b', o', none⟩) sb.length c2) := HC.out _ K4.out 3 _ rfl
                    have x0' : (w4.alloc (.cells #[.int .i64 t0, .int .i64 t1, .int .u64 t2, .string t3, .slice t4 t5 t6] 42)).cell? ⟨b', o' + j * 6, none⟩ = some (.string unm) := HAT.out _ K4'.out
                    obtain ⟨n0, n1, n2, n3, n4⟩ := blank_c w4
                    have f0 := blank_f w4 0
                    have f1 := blank_f w4 1
                    have f2 := blank_f w4 2
                    have f3 := blank_f w4 3
                    have f4 := blank_f w4 4
                    simp only [Nat.zero_add] at n0 n1 n2 n3 n4
                    clear hb4 hcc x3 b1 b2 b3 b4 b5 C33
                    cases cc with
                    | false =>
                      go_wp2_with fail
                      go_ret
                      exact ⟨⟨false, rfl, fun h => by cases h⟩, bk_tr KB.out K4.out⟩
                    | true =>
                      by_cases h100 : 100 < unm.size
                      · have hd8 : decide (100 < unm.size) = true := decide_eq_true h100
                        have hi8 : (100 : Int) < (unm.size : Int) := by omega
                        go_wp2_with fail
                        go_ret
                        exact ⟨⟨false, rfl, fun h => by cases h⟩, bk_tr KB.out K4.out⟩
                      · have hd8 : decide (100 < unm.size) = false := decide_eq_false h100
                        have hi8 : ¬ (100 : Int) < (unm.size : Int) := by omega
                        go_wp2_with fail
                        go_roundw
                        case rel => exact ⟨j + 1, by have := HLTJ.out; omega, by go_num, fun u hu => by
                          rcases TJ.out u hu with h | h
                          · rw [h]; exact HCC.out (by trivial)
                          · exact HQJ.out u h, K4.out⟩
                        case measure => have := HLTJ.out; simp [intOf]; omega
end Go.Proofs.YtnlpiaejfmdckaaDoor
