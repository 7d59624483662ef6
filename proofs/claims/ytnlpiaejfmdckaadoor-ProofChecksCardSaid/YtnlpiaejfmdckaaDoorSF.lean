/- The reference's Same: two lists of equal steps. -/
import Derived.Test.YtnlpiaejfmdckaaDoorSE
import Derived.BigRegion
namespace Go.Proofs.YtnlpiaejfmdckaaDoor
open Go.RowKit
set_option linter.unusedVariables false
set_option linter.unusedSimpArgs false
set_option maxRecDepth 100000 in
set_option maxHeartbeats 8000000 in
theorem same24 (ss : List S) (hl : ss.length ≤ 100000) (hok : ∀ s ∈ ss, okQ s) (w : World) (p q : Option Addr) (c d : Nat) (hp : RowS (mem 0 w) w p c ss) (hq : RowS (mem 0 w) w q d ss) : Calls Tryd.prog 24 #[.slice p ss.length c, .slice q ss.length d] w fun e w' => e = .returned (.bool true) ∧ BK w w' := by
  have HP := Lib.hid hp
  have HQ := Lib.hid hq
  have OK := Lib.hid hok
  have HL := Lib.hid hl
  clear hp hq hok hl
  go_enter Tryd.func24, Tryd.ntmps24
  go_wp2_with fail
  go_loopw [5] (fun iv wr => ∃ k : Nat, k ≤ ss.length ∧ iv = .int .i64 (k : Int) ∧ BK w wr) (fun iv _ => ss.length - (intOf iv).toNat)
  case atStart => exact ⟨0, Nat.zero_le _, rfl, BK.refl _⟩
  case round =>
    obtain ⟨k, hk, rfl, hb⟩ := hrel
    have KB := Lib.hid hb
    clear hb
    by_cases e : k = ss.length
    · have hd : decide (k < ss.length) = false := by simp [e]
      subst e
      go_wp2_with fail
      go_ret
      exact ⟨rfl, KB.out⟩
    · have hlt : k < ss.length := by omega
      have hd : decide (k < ss.length) = true := by simpa using hlt
      obtain ⟨b3, o3, ⟨p31, c31, p32, c32, p33, c33, p34, c34⟩, rfl, -, hc3, hp3⟩ := (HP.out.bk KB.out (Nat.le_refl _)).get hlt
      obtain ⟨b4, o4, ⟨p41, c41, p42, c42, p43, c43, p44, c44⟩, rfl, -, hc4, hp4⟩ := (HQ.out.bk KB.out (Nat.le_refl _)).get hlt
      have OKU := OK.out _ (List.getElem_mem hlt)
      generalize ss[k] = s3 at *
      obtain ⟨kk, rf, ru, sb, ⟨opa, wda, vla, nma, tsa⟩, ⟨opb, wdb, vlb, nmb, tsb⟩⟩ := s3
      have HLT := Lib.hid hlt
      have ei : IntKind.i64.wrap ((k : Int) + 1) = (k : Int) + 1 := by have := HL.out; exact IntWalk.i64_in _ (by omega)
      have hki : (k : Int) < (ss.length : Int) := by omega
      obtain ⟨ok1, ok2, ok3, ok4, ok5⟩ := OKU
      have C18 := Lib.hid (fun wc (hb : BK wr wc) => same18 rf rf (Nat.le_trans ok1 (by decide)) wc p31 p41 c31 c41 (hp3.rf.bk hb (Nat.le_refl _)) (hp4.rf.bk hb (Nat.le_refl _)))
      have C42 := Lib.hid (fun wc (hb : BK wr wc) => subs42 sb sb ok2 ok3 wc p32 p42 c32 c42 (hp3.sb.bk hb (Nat.le_refl _)) (hp4.sb.bk hb (Nat.le_refl _)))
      have C43 := Lib.hid (fun wc (hb : BK wr wc) => same43 _ ok4 (.mk opa wda vla nma tsa) wc p33 p43 c33 c43 (hp3.a.bk hb (Nat.le_refl _)) (hp4.a.bk hb (Nat.le_refl _)))
      have D43 := Lib.hid (fun wc (hb : BK wr wc) => same43 _ ok5 (.mk opb wdb vlb nmb tsb) wc p34 p44 c34 c44 (hp3.b.bk hb (Nat.le_refl _)) (hp4.b.bk hb (Nat.le_refl _)))
      rw [eqI_self] at C18
      rw [subB_refl] at C42
      rw [sameT_refl] at C43 D43
      have z3_0 : wr.cell? ⟨b3, o3 + k * 14, none⟩ = some (.int .i64 kk) := hc3 0 _ rfl
      have z3_1 : wr.cell? ⟨b3, o3 + k * 14 + 1, none⟩ = some (.slice p31 rf.length c31) := hc3 1 _ rfl
      have z3_2 : wr.cell? ⟨b3, o3 + k * 14 + 2, none⟩ = some (.int .i64 ru) := hc3 2 _ rfl
      have z3_3 : wr.cell? ⟨b3, o3 + k * 14 + 3, none⟩ = some (.slice p32 sb.length c32) := hc3 3 _ rfl
      have z3_4 : wr.cell? ⟨b3, o3 + k * 14 + 4, none⟩ = some (.int .i64 opa) := hc3 4 _ rfl
      have z3_5 : wr.cell? ⟨b3, o3 + k * 14 + 5, none⟩ = some (.int .i64 wda) := hc3 5 _ rfl
      have z3_6 : wr.cell? ⟨b3, o3 + k * 14 + 6, none⟩ = some (.int .u64 vla) := hc3 6 _ rfl
      have z3_7 : wr.cell? ⟨b3, o3 + k * 14 + 7, none⟩ = some (.string nma) := hc3 7 _ rfl
      have z3_8 : wr.cell? ⟨b3, o3 + k * 14 + 8, none⟩ = some (.slice p33 tsa.length c33) := hc3 8 _ rfl
      have z3_9 : wr.cell? ⟨b3, o3 + k * 14 + 9, none⟩ = some (.int .i64 opb) := hc3 9 _ rfl
      have z3_10 : wr.cell? ⟨b3, o3 + k * 14 + 10, none⟩ = some (.int .i64 wdb) := hc3 10 _ rfl
      have z3_11 : wr.cell? ⟨b3, o3 + k * 14 + 11, none⟩ = some (.int .u64 vlb) := hc3 11 _ rfl
      have z3_12 : wr.cell? ⟨b3, o3 + k * 14 + 12, none⟩ = some (.string nmb) := hc3 12 _ rfl
      have z3_13 : wr.cell? ⟨b3, o3 + k * 14 + 13, none⟩ = some (.slice p34 tsb.length c34) := hc3 13 _ rfl
      have z4_0 : wr.cell? ⟨b4, o4 + k * 14, none⟩ = some (.int .i64 kk) := hc4 0 _ rfl
      have z4_1 : wr.cell? ⟨b4, o4 + k * 14 + 1, none⟩ = some (.slice p41 rf.length c41) := hc4 1 _ rfl
      have z4_2 : wr.cell? ⟨b4, o4 + k * 14 + 2, none⟩ = some (.int .i64 ru) := hc4 2 _ rfl
      have z4_3 : wr.cell? ⟨b4, o4 + k * 14 + 3, none⟩ = some (.slice p42 sb.length c42) := hc4 3 _ rfl
      have z4_4 : wr.cell? ⟨b4, o4 + k * 14 + 4, none⟩ = some (.int .i64 opa) := hc4 4 _ rfl
      have z4_5 : wr.cell? ⟨b4, o4 + k * 14 + 5, none⟩ = some (.int .i64 wda) := hc4 5 _ rfl
      have z4_6 : wr.cell? ⟨b4, o4 + k * 14 + 6, none⟩ = some (.int .u64 vla) := hc4 6 _ rfl
      have z4_7 : wr.cell? ⟨b4, o4 + k * 14 + 7, none⟩ = some (.string nma) := hc4 7 _ rfl
      have z4_8 : wr.cell? ⟨b4, o4 + k * 14 + 8, none⟩ = some (.slice p43 tsa.length c43) := hc4 8 _ rfl
      have z4_9 : wr.cell? ⟨b4, o4 + k * 14 + 9, none⟩ = some (.int .i64 opb) := hc4 9 _ rfl
      have z4_10 : wr.cell? ⟨b4, o4 + k * 14 + 10, none⟩ = some (.int .i64 wdb) := hc4 10 _ rfl
      have z4_11 : wr.cell? ⟨b4, o4 + k * 14 + 11, none⟩ = some (.int .u64 vlb) := hc4 11 _ rfl
      have z4_12 : wr.cell? ⟨b4, o4 + k * 14 + 12, none⟩ = some (.string nmb) := hc4 12 _ rfl
      have z4_13 : wr.cell? ⟨b4, o4 + k * 14 + 13, none⟩ = some (.slice p44 tsb.length c44) := hc4 13 _ rfl
      obtain ⟨t1, t2', t3'⟩ := two_boxes wr #[.int .i64 0, .slice none 0 0, .int .i64 0, .slice none 0 0, .int .i64 0, .int .i64 0, .int .u64 0, .string ⟨#[]⟩, .slice none 0 0, .int .i64 0, .int .i64 0, .int .u64 0, .string ⟨#[]⟩, .slice none 0 0] #[.int .i64 0, .slice none 0 0, .int .i64 0, .slice none 0 0, .int .i64 0, .int .i64 0, .int .u64 0, .string ⟨#[]⟩, .slice none 0 0, .int .i64 0, .int .i64 0, .int .u64 0, .string ⟨#[]⟩, .slice none 0 0] 44 44
      have hc4' := hc4.bk t1 (by simp [cS])
      have hc4'' := hc4.bk (bk_alloc (BK.refl wr) (.cells #[.int .i64 0, .slice none 0 0, .int .i64 0, .slice none 0 0, .int .i64 0, .int .i64 0, .int .u64 0, .string ⟨#[]⟩, .slice none 0 0, .int .i64 0, .int .i64 0, .int .u64 0, .string ⟨#[]⟩, .slice none 0 0] 44)) (by simp [cS])
      have hc3' := hc3.bk t1 (by simp [cS])
      have hc3'' := hc3.bk (bk_alloc (BK.refl wr) (.cells #[.int .i64 0, .slice none 0 0, .int .i64 0, .slice none 0 0, .int .i64 0, .int .i64 0, .int .u64 0, .string ⟨#[]⟩, .slice none 0 0, .int .i64 0, .int .i64 0, .int .u64 0, .string ⟨#[]⟩, .slice none 0 0] 44)) (by simp [cS])
      have hc4q := hc4.bk (bk_tr (bk_alloc (BK.refl wr) (.cells #[.int .i64 kk, .slice p31 rf.length c31, .int .i64 ru, .slice p32 sb.length c32, .int .i64 opa, .int .i64 wda, .int .u64 vla, .string nma, .slice p33 tsa.length c33, .int .i64 opb, .int .i64 wdb, .int .u64 vlb, .string nmb, .slice p34 tsb.length c34] 44)) (bk_alloc (BK.refl (wr.alloc (.cells #[.int .i64 kk, .slice p31 rf.length c31, .int .i64 ru, .slice p32 sb.length c32, .int .i64 opa, .int .i64 wda, .int .u64 vla, .string nma, .slice p33 tsa.length c33, .int .i64 opb, .int .i64 wdb, .int .u64 vlb, .string nmb, .slice p34 tsb.length c34] 44))) (.cells #[.int .i64 0, .slice none 0 0, .int .i64 0, .slice none 0 0, .int .i64 0, .int .i64 0, .int .u64 0, .string ⟨#[]⟩, .slice none 0 0, .int .i64 0, .int .i64 0, .int .u64 0, .string ⟨#[]⟩, .slice none 0 0] 44))) (by simp [cS])
      have hc4z := hc4.bk (bk_tr (bk_alloc (BK.refl wr) (.cells #[.int .i64 0, .slice none 0 0, .int .i64 0, .slice none 0 0, .int .i64 0, .int .i64 0, .int .u64 0, .string ⟨#[]⟩, .slice none 0 0, .int .i64 0, .int .i64 0, .int .u64 0, .string ⟨#[]⟩, .slice none 0 0] 44)) (bk_alloc (BK.refl (wr.alloc (.cells #[.int .i64 0, .slice none 0 0, .int .i64 0, .slice none 0 0, .int .i64 0, .int .i64 0, .int .u64 0, .string ⟨#[]⟩, .slice none 0 0, .int .i64 0, .int .i64 0, .int .u64 0, .string ⟨#[]⟩, .slice none 0 0] 44))) (.cells #[.int .i64 kk, .slice p31 rf.length c31, .int .i64 ru, .slice p32 sb.length c32, .int .i64 opa, .int .i64 wda, .int .u64 vla, .string nma, .slice p33 tsa.length c33, .int .i64 opb, .int .i64 wdb, .int .u64 vlb, .string nmb, .slice p34 tsb.length c34] 44))) (by simp [cS])
      have s4_0 : ((wr.alloc (.cells #[.int .i64 0, .slice none 0 0, .int .i64 0, .slice none 0 0, .int .i64 0, .int .i64 0, .int .u64 0, .string ⟨#[]⟩, .slice none 0 0, .int .i64 0, .int .i64 0, .int .u64 0, .string ⟨#[]⟩, .slice none 0 0] 44)).alloc (.cells #[.int .i64 0, .slice none 0 0, .int .i64 0, .slice none 0 0, .int .i64 0, .int .i64 0, .int .u64 0, .string ⟨#[]⟩, .slice none 0 0, .int .i64 0, .int .i64 0, .int .u64 0, .string ⟨#[]⟩, .slice none 0 0] 44)).cell? ⟨b4, o4 + k * 14, none⟩ = some (.int .i64 kk) := hc4' 0 _ rfl
      have r4_0 : (wr.alloc (.cells #[.int .i64 0, .slice none 0 0, .int .i64 0, .slice none 0 0, .int .i64 0, .int .i64 0, .int .u64 0, .string ⟨#[]⟩, .slice none 0 0, .int .i64 0, .int .i64 0, .int .u64 0, .string ⟨#[]⟩, .slice none 0 0] 44)).cell? ⟨b4, o4 + k * 14, none⟩ = some (.int .i64 kk) := hc4'' 0 _ rfl
      have q4_0 : ((wr.alloc (.cells #[.int .i64 kk, .slice p31 rf.length c31, .int .i64 ru, .slice p32 sb.length c32, .int .i64 opa, .int .i64 wda, .int .u64 vla, .string nma, .slice p33 tsa.length c33, .int .i64 opb, .int .i64 wdb, .int .u64 vlb, .string nmb, .slice p34 tsb.length c34] 44)).alloc (.cells #[.int .i64 0, .slice none 0 0, .int .i64 0, .slice none 0 0, .int .i64 0, .int .i64 0, .int .u64 0, .string ⟨#[]⟩, .slice none 0 0, .int .i64 0, .int .i64 0, .int .u64 0, .string ⟨#[]⟩, .slice none 0 0] 44)).cell? ⟨b4, o4 + k * 14, none⟩ = some (.int .i64 kk) := hc4q 0 _ rfl
      have u4_0 : ((wr.alloc (.cells #[.int .i64 0, .slice none 0 0, .int .i64 0, .slice none 0 0, .int .i64 0, .int .i64 0, .int .u64 0, .string ⟨#[]⟩, .slice none 0 0, .int .i64 0, .int .i64 0, .int .u64 0, .string ⟨#[]⟩, .slice none 0 0] 44)).alloc (.cells #[.int .i64 kk, .slice p31 rf.length c31, .int .i64 ru, .slice p32 sb.length c32, .int .i64 opa, .int .i64 wda, .int .u64 vla, .string nma, .slice p33 tsa.length c33, .int .i64 opb, .int .i64 wdb, .int .u64 vlb, .string nmb, .slice p34 tsb.length c34] 44)).cell? ⟨b4, o4 + k * 14, none⟩ = some (.int .i64 kk) := hc4z 0 _ rfl
      have s4_1 : ((wr.alloc (.cells #[.int .i64 0, .slice none 0 0, .int .i64 0, .slice none 0 0, .int .i64 0, .int .i64 0, .int .u64 0, .string ⟨#[]⟩, .slice none 0 0, .int .i64 0, .int .i64 0, .int .u64 0, .string ⟨#[]⟩, .slice none 0 0] 44)).alloc (.cells #[.int .i64 0, .slice none 0 0, .int .i64 0, .slice none 0 0, .int .i64 0, .int .i64 0, .int .u64 0, .string ⟨#[]⟩, .slice none 0 0, .int .i64 0, .int .i64 0, .int .u64 0, .string ⟨#[]⟩, .slice none 0 0] 44)).cell? ⟨b4, o4 + k * 14 + 1, none⟩ = some (.slice p41 rf.length c41) := hc4' 1 _ rfl
      have r4_1 : (wr.alloc (.cells #[.int .i64 0, .slice none 0 0, .int .i64 0, .slice none 0 0, .int .i64 0, .int .i64 0, .int .u64 0, .string ⟨#[]⟩, .slice none 0 0, .int .i64 0, .int .i64 0, .int .u64 0, .string ⟨#[]⟩, .slice none 0 0] 44)).cell? ⟨b4, o4 + k * 14 + 1, none⟩ = some (.slice p41 rf.length c41) := hc4'' 1 _ rfl
      have q4_1 : ((wr.alloc (.cells #[.int .i64 kk, .slice p31 rf.length c31, .int .i64 ru, .slice p32 sb.length c32, .int .i64 opa, .int .i64 wda, .int .u64 vla, .string nma, .slice p33 tsa.length c33, .int .i64 opb, .int .i64 wdb, .int .u64 vlb, .string nmb, .slice p34 tsb.length c34] 44)).alloc (.cells #[.int .i64 0, .slice none 0 0, .int .i64 0, .slice none 0 0, .int .i64 0, .int .i64 0, .int .u64 0, .string ⟨#[]⟩, .slice none 0 0, .int .i64 0, .int .i64 0, .int .u64 0, .string ⟨#[]⟩, .slice none 0 0] 44)).cell? ⟨b4, o4 + k * 14 + 1, none⟩ = some (.slice p41 rf.length c41) := hc4q 1 _ rfl
      have u4_1 : ((wr.alloc (.cells #[.int .i64 0, .slice none 0 0, .int .i64 0, .slice none 0 0, .int .i64 0, .int .i64 0, .int .u64 0, .string ⟨#[]⟩, .slice none 0 0, .int .i64 0, .int .i64 0, .int .u64 0, .string ⟨#[]⟩, .slice none 0 0] 44)).alloc (.cells #[.int .i64 kk, .slice p31 rf.length c31, .int .i64 ru, .slice p32 sb.length c32, .int .i64 opa, .int .i64 wda, .int .u64 vla, .string nma, .slice p33 tsa.length c33, .int .i64 opb, .int .i64 wdb, .int .u64 vlb, .string nmb, .slice p34 tsb.length c34] 44)).cell? ⟨b4, o4 + k * 14 + 1, none⟩ = some (.slice p41 rf.length c41) := hc4z 1 _ rfl
      have s4_2 : ((wr.alloc (.cells #[.int .i64 0, .slice none 0 0, .int .i64 0, .slice none 0 0, .int .i64 0, .int .i64 0, .int .u64 0, .string ⟨#[]⟩, .slice none 0 0, .int .i64 0, .int .i64 0, .int .u64 0, .string ⟨#[]⟩, .slice none 0 0] 44)).alloc (.cells #[.int .i64 0, .slice none 0 0, .int .i64 0, .slice none 0 0, .int .i64 0, .int .i64 0, .int .u64 0, .string ⟨#[]⟩, .slice none 0 0, .int .i64 0, .int .i64 0, .int .u64 0, .string ⟨#[]⟩, .slice none 0 0] 44)).cell? ⟨b4, o4 + k * 14 + 2, none⟩ = some (.int .i64 ru) := hc4' 2 _ rfl
      have r4_2 : (wr.alloc (.cells #[.int .i64 0, .slice none 0 0, .int .i64 0, .slice none 0 0, .int .i64 0, .int .i64 0, .int .u64 0, .string ⟨#[]⟩, .slice none 0 0, .int .i64 0, .int .i64 0, .int .u64 0, .string ⟨#[]⟩, .slice none 0 0] 44)).cell? ⟨b4, o4 + k * 14 + 2, none⟩ = some (.int .i64 ru) := hc4'' 2 _ rfl
      have q4_2 : ((wr.alloc (.cells #[.int .i64 kk, .slice p31 rf.length c31, .int .i64 ru, .slice p32 sb.length c32, .int .i64 opa, .int .i64 wda, .int .u64 vla, .string nma, .slice p33 tsa.length c33, .int .i64 opb, .int .i64 wdb, .int .u64 vlb, .string nmb, .slice p34 tsb.length c34] 44)).alloc (.cells #[.int .i64 0, .slice none 0 0, .int .i64 0, .slice none 0 0, .int .i64 0, .int .i64 0, .int .u64 0, .string ⟨#[]⟩, .slice none 0 0, .int .i64 0, .int .i64 0, .int .u64 0, .string ⟨#[]⟩, .slice none 0 0] 44)).cell? ⟨b4, o4 + k * 14 + 2, none⟩ = some (.int .i64 ru) := hc4q 2 _ rfl
      have u4_2 : ((wr.alloc (.cells #[.int .i64 0, .slice none 0 0, .int .i64 0, .slice none 0 0, .int .i64 0, .int .i64 0, .int .u64 0, .string ⟨#[]⟩, .slice none 0 0, .int .i64 0, .int .i64 0, .int .u64 0, .string ⟨#[]⟩, .slice none 0 0] 44)).alloc (.cells #[.int .i64 kk, .slice p31 rf.length c31, .int .i64 ru, .slice p32 sb.length c32, .int .i64 opa, .int .i64 wda, .int .u64 vla, .string nma, .slice p33 tsa.length c33, .int .i64 opb, .int .i64 wdb, .int .u64 vlb, .string nmb, .slice p34 tsb.length c34] 44)).cell? ⟨b4, o4 + k * 14 + 2, none⟩ = some (.int .i64 ru) := hc4z 2 _ rfl
      have s4_3 : ((wr.alloc (.cells #[.int .i64 0, .slice none 0 0, .int .i64 0, .slice none 0 0, .int .i64 0, .int .i64 0, .int .u64 0, .string ⟨#[]⟩, .slice none 0 0, .int .i64 0, .int .i64 0, .int .u64 0, .string ⟨#[]⟩, .slice none 0 0] 44)).alloc (.cells #[.int .i64 0, .slice none 0 0, .int .i64 0, .slice none 0 0, .int .i64 0, .int .i64 0, .int .u64 0, .string ⟨#[]⟩, .slice none 0 0, .int .i64 0, .int .i64 0, .int .u64 0, .string ⟨#[]⟩, .slice none 0 0] 44)).cell? ⟨b4, o4 + k * 14 + 3, none⟩ = some (.slice p42 sb.length c42) := hc4' 3 _ rfl
      have r4_3 : (wr.alloc (.cells #[.int .i64 0, .slice none 0 0, .int .i64 0, .slice none 0 0, .int .i64 0, .int .i64 0, .int .u64 0, .string ⟨#[]⟩, .slice none 0 0, .int .i64 0, .int .i64 0, .int .u64 0, .string ⟨#[]⟩, .slice none 0 0] 44)).cell? ⟨b4, o4 + k * 14 + 3, none⟩ = some (.slice p42 sb.length c42) := hc4'' 3 _ rfl
      have q4_3 : ((wr.alloc (.cells #[.int .i64 kk, .slice p31 rf.length c31, .int .i64 ru, .slice p32 sb.length c32, .int .i64 opa, .int .i64 wda, .int .u64 vla, .string nma, .slice p33 tsa.length c33, .int .i64 opb, .int .i64 wdb, .int .u64 vlb, .string nmb, .slice p34 tsb.length c34] 44)).alloc (.cells #[.int .i64 0, .slice none 0 0, .int .i64 0, .slice none 0 0, .int .i64 0, .int .i64 0, .int .u64 0, .string ⟨#[]⟩, .slice none 0 0, .int .i64 0, .int .i64 0, .int .u64 0, .string ⟨#[]⟩, .slice none 0 0] 44)).cell? ⟨b4, o4 + k * 14 + 3, none⟩ = some (.slice p42 sb.length c42) := hc4q 3 _ rfl
      have u4_3 : ((wr.alloc (.cells #[.int .i64 0, .slice none 0 0, .int .i64 0, .slice none 0 0, .int .i64 0, .int .i64 0, .int .u64 0, .string ⟨#[]⟩, .slice none 0 0, .int .i64 0, .int .i64 0, .int .u64 0, .string ⟨#[]⟩, .slice none 0 0] 44)).alloc (.cells #[.int .i64 kk, .slice p31 rf.length c31, .int .i64 ru, .slice p32 sb.length c32, .int .i64 opa, .int .i64 wda, .int .u64 vla, .string nma, .slice p33 tsa.length c33, .int .i64 opb, .int .i64 wdb, .int .u64 vlb, .string nmb, .slice p34 tsb.length c34] 44)).cell? ⟨b4, o4 + k * 14 + 3, none⟩ = some (.slice p42 sb.length c42) := hc4z 3 _ rfl
      have s4_4 : ((wr.alloc (.cells #[.int .i64 0, .slice none 0 0, .int .i64 0, .slice none 0 0, .int .i64 0, .int .i64 0, .int .u64 0, .string ⟨#[]⟩, .slice none 0 0, .int .i64 0, .int .i64 0, .int .u64 0, .string ⟨#[]⟩, .slice none 0 0] 44)).alloc (.cells #[.int .i64 0, .slice none 0 0, .int .i64 0, .slice none 0 0, .int .i64 0, .int .i64 0, .int .u64 0, .string ⟨#[]⟩, .slice none 0 0, .int .i64 0, .int .i64 0, .int .u64 0, .string ⟨#[]⟩, .slice none 0 0] 44)).cell? ⟨b4, o4 + k * 14 + 4, none⟩ = some (.int .i64 opa) := hc4' 4 _ rfl
      have r4_4 : (wr.alloc (.cells #[.int .i64 0, .slice none 0 0, .int .i64 0, .slice none 0 0, .int .i64 0, .int .i64 0, .int .u64 0, .string ⟨#[]⟩, .slice none 0 0, .int .i64 0, .int .i64 0, .int .u64 0, .string ⟨#[]⟩, .slice none 0 0] 44)).cell? ⟨b4, o4 + k * 14 + 4, none⟩ = some (.int .i64 opa) := hc4'' 4 _ rfl
      have q4_4 : ((wr.alloc (.cells #[.int .i64 kk, .slice p31 rf.length c31, .int .i64 ru, .slice p32 sb.length c32, .int .i64 opa, .int .i64 wda, .int .u64 vla, .string nma, .slice p33 tsa.length c33, .int .i64 opb, .int .i64 wdb, .int .u64 vlb, .string nmb, .slice p34 tsb.length c34] 44)).alloc (.cells #[.int .i64 0, .slice none 0 0, .int .i64 0, .slice none 0 0, .int .i64 0, .int .i64 0, .int .u64 0, .string ⟨#[]⟩, .slice none 0 0, .int .i64 0, .int .i64 0, .int .u64 0, .string ⟨#[]⟩, .slice none 0 0] 44)).cell? ⟨b4, o4 + k * 14 + 4, none⟩ = some (.int .i64 opa) := hc4q 4 _ rfl
      have u4_4 : ((wr.alloc (.cells #[.int .i64 0, .slice none 0 0, .int .i64 0, .slice none 0 0, .int .i64 0, .int .i64 0, .int .u64 0, .string ⟨#[]⟩, .slice none 0 0, .int .i64 0, .int .i64 0, .int .u64 0, .string ⟨#[]⟩, .slice none 0 0] 44)).alloc (.cells #[.int .i64 kk, .slice p31 rf.length c31, .int .i64 ru, .slice p32 sb.length c32, .int .i64 opa, .int .i64 wda, .int .u64 vla, .string nma, .slice p33 tsa.length c33, .int .i64 opb, .int .i64 wdb, .int .u64 vlb, .string nmb, .slice p34 tsb.length c34] 44)).cell? ⟨b4, o4 + k * 14 + 4, none⟩ = some (.int .i64 opa) := hc4z 4 _ rfl
      have s4_5 : ((wr.alloc (.cells #[.int .i64 0, .slice none 0 0, .int .i64 0, .slice none 0 0, .int .i64 0, .int .i64 0, .int .u64 0, .string ⟨#[]⟩, .slice none 0 0, .int .i64 0, .int .i64 0, .int .u64 0, .string ⟨#[]⟩, .slice none 0 0] 44)).alloc (.cells #[.int .i64 0, .slice none 0 0, .int .i64 0, .slice none 0 0, .int .i64 0, .int .i64 0, .int .u64 0, .string ⟨#[]⟩, .slice none 0 0, .int .i64 0, .int .i64 0, .int .u64 0, .string ⟨#[]⟩, .slice none 0 0] 44)).cell? ⟨b4, o4 + k * 14 + 5, none⟩ = some (.int .i64 wda) := hc4' 5 _ rfl
      have r4_5 : (wr.alloc (.cells #[.int .i64 0, .slice none 0 0, .int .i64 0, .slice none 0 0, .int .i64 0, .int .i64 0, .int .u64 0, .string ⟨#[]⟩, .slice none 0 0, .int .i64 0, .int .i64 0, .int .u64 0, .string ⟨#[]⟩, .slice none 0 0] 44)).cell? ⟨b4, o4 + k * 14 + 5, none⟩ = some (.int .i64 wda) := hc4'' 5 _ rfl
      have q4_5 : ((wr.alloc (.cells #[.int .i64 kk, .slice p31 rf.length c31, .int .i64 ru, .slice p32 sb.length c32, .int .i64 opa, .int .i64 wda, .int .u64 vla, .string nma, .slice p33 tsa.length c33, .int .i64 opb, .int .i64 wdb, .int .u64 vlb, .string nmb, .slice p34 tsb.length c34] 44)).alloc (.cells #[.int .i64 0, .slice none 0 0, .int .i64 0, .slice none 0 0, .int .i64 0, .int .i64 0, .int .u64 0, .string ⟨#[]⟩, .slice none 0 0, .int .i64 0, .int .i64 0, .int .u64 0, .string ⟨#[]⟩, .slice none 0 0] 44)).cell? ⟨b4, o4 + k * 14 + 5, none⟩ = some (.int .i64 wda) := hc4q 5 _ rfl
      have u4_5 : ((wr.alloc (.cells #[.int .i64 0, .slice none 0 0, .int .i64 0, .slice none 0 0, .int .i64 0, .int .i64 0, .int .u64 0, .string ⟨#[]⟩, .slice none 0 0, .int .i64 0, .int .i64 0, .int .u64 0, .string ⟨#[]⟩, .slice none 0 0] 44)).alloc (.cells #[.int .i64 kk, .slice p31 rf.length c31, .int .i64 ru, .slice p32 sb.length c32, .int .i64 opa, .int .i64 wda, .int .u64 vla, .string nma, .slice p33 tsa.length c33, .int .i64 opb, .int .i64 wdb, .int .u64 vlb, .string nmb, .slice p34 tsb.length c34] 44)).cell? ⟨b4, o4 + k * 14 + 5, none⟩ = some (.int .i64 wda) := hc4z 5 _ rfl
      have s4_6 : ((wr.alloc (.cells #[.int .i64 0, .slice none 0 0, .int .i64 0, .slice none 0 0, .int .i64 0, .int .i64 0, .int .u64 0, .string ⟨#[]⟩, .slice none 0 0, .int .i64 0, .int .i64 0, .int .u64 0, .string ⟨#[]⟩, .slice none 0 0] 44)).alloc (.cells #[.int .i64 0, .slice none 0 0, .int .i64 0, .slice none 0 0, .int .i64 0, .int .i64 0, .int .u64 0, .string ⟨#[]⟩, .slice none 0 0, .int .i64 0, .int .i64 0, .int .u64 0, .string ⟨#[]⟩, .slice none 0 0] 44)).cell? ⟨b4, o4 + k * 14 + 6, none⟩ = some (.int .u64 vla) := hc4' 6 _ rfl
      have r4_6 : (wr.alloc (.cells #[.int .i64 0, .slice none 0 0, .int .i64 0, .slice none 0 0, .int .i64 0, .int .i64 0, .int .u64 0, .string ⟨#[]⟩, .slice none 0 0, .int .i64 0, .int .i64 0, .int .u64 0, .string ⟨#[]⟩, .slice none 0 0] 44)).cell? ⟨b4, o4 + k * 14 + 6, none⟩ = some (.int .u64 vla) := hc4'' 6 _ rfl
      have q4_6 : ((wr.alloc (.cells #[.int .i64 kk, .slice p31 rf.length c31, .int .i64 ru, .slice p32 sb.length c32, .int .i64 opa, .int .i64 wda, .int .u64 vla, .string nma, .slice p33 tsa.length c33, .int .i64 opb, .int .i64 wdb, .int .u64 vlb, .string nmb, .slice p34 tsb.length c34] 44)).alloc (.cells #[.int .i64 0, .slice none 0 0, .int .i64 0, .slice none 0 0, .int .i64 0, .int .i64 0, .int .u64 0, .string ⟨#[]⟩, .slice none 0 0, .int .i64 0, .int .i64 0, .int .u64 0, .string ⟨#[]⟩, .slice none 0 0] 44)).cell? ⟨b4, o4 + k * 14 + 6, none⟩ = some (.int .u64 vla) := hc4q 6 _ rfl
      have u4_6 : ((wr.alloc (.cells #[.int .i64 0, .slice none 0 0, .int .i64 0, .slice none 0 0, .int .i64 0, .int .i64 0, .int .u64 0, .string ⟨#[]⟩, .slice none 0 0, .int .i64 0, .int .i64 0, .int .u64 0, .string ⟨#[]⟩, .slice none 0 0] 44)).alloc (.cells #[.int .i64 kk, .slice p31 rf.length c31, .int .i64 ru, .slice p32 sb.length c32, .int .i64 opa, .int .i64 wda, .int .u64 vla, .string nma, .slice p33 tsa.length c33, .int .i64 opb, .int .i64 wdb, .int .u64 vlb, .string nmb, .slice p34 tsb.length c34] 44)).cell? ⟨b4, o4 + k * 14 + 6, none⟩ = some (.int .u64 vla) := hc4z 6 _ rfl
      have s4_7 : ((wr.alloc (.cells #[.int .i64 0, .slice none 0 0, .int .i64 0, .slice none 0 0, .int .i64 0, .int .i64 0, .int .u64 0, .string ⟨#[]⟩, .slice none 0 0, .int .i64 0, .int .i64 0, .int .u64 0, .string ⟨#[]⟩, .slice none 0 0] 44)).alloc (.cells #[.int .i64 0, .slice none 0 0, .int .i64 0, .slice none 0 0, .int .i64 0, .int .i64 0, .int .u64 0, .string ⟨#[]⟩, .slice none 0 0, .int .i64 0, .int .i64 0, .int .u64 0, .string ⟨#[]⟩, .slice none 0 0] 44)).cell? ⟨b4, o4 + k * 14 + 7, none⟩ = some (.string nma) := hc4' 7 _ rfl
      have r4_7 : (wr.alloc (.cells #[.int .i64 0, .slice none 0 0, .int .i64 0, .slice none 0 0, .int .i64 0, .int .i64 0, .int .u64 0, .string ⟨#[]⟩, .slice none 0 0, .int .i64 0, .int .i64 0, .int .u64 0, .string ⟨#[]⟩, .slice none 0 0] 44)).cell? ⟨b4, o4 + k * 14 + 7, none⟩ = some (.string nma) := hc4'' 7 _ rfl
      have q4_7 : ((wr.alloc (.cells #[.int .i64 kk, .slice p31 rf.length c31, .int .i64 ru, .slice p32 sb.length c32, .int .i64 opa, .int .i64 wda, .int .u64 vla, .string nma, .slice p33 tsa.length c33, .int .i64 opb, .int .i64 wdb, .int .u64 vlb, .string nmb, .slice p34 tsb.length c34] 44)).alloc (.cells #[.int .i64 0, .slice none 0 0, .int .i64 0, .slice none 0 0, .int .i64 0, .int .i64 0, .int .u64 0, .string ⟨#[]⟩, .slice none 0 0, .int .i64 0, .int .i64 0, .int .u64 0, .string ⟨#[]⟩, .slice none 0 0] 44)).cell? ⟨b4, o4 + k * 14 + 7, none⟩ = some (.string nma) := hc4q 7 _ rfl
      have u4_7 : ((wr.alloc (.cells #[.int .i64 0, .slice none 0 0, .int .i64 0, .slice none 0 0, .int .i64 0, .int .i64 0, .int .u64 0, .string ⟨#[]⟩, .slice none 0 0, .int .i64 0, .int .i64 0, .int .u64 0, .string ⟨#[]⟩, .slice none 0 0] 44)).alloc (.cells #[.int .i64 kk, .slice p31 rf.length c31, .int .i64 ru, .slice p32 sb.length c32, .int .i64 opa, .int .i64 wda, .int .u64 vla, .string nma, .slice p33 tsa.length c33, .int .i64 opb, .int .i64 wdb, .int .u64 vlb, .string nmb, .slice p34 tsb.length c34] 44)).cell? ⟨b4, o4 + k * 14 + 7, none⟩ = some (.string nma) := hc4z 7 _ rfl
      have s4_8 : ((wr.alloc (.cells #[.int .i64 0, .slice none 0 0, .int .i64 0, .slice none 0 0, .int .i64 0, .int .i64 0, .int .u64 0, .string ⟨#[]⟩, .slice none 0 0, .int .i64 0, .int .i64 0, .int .u64 0, .string ⟨#[]⟩, .slice none 0 0] 44)).alloc (.cells #[.int .i64 0, .slice none 0 0, .int .i64 0, .slice none 0 0, .int .i64 0, .int .i64 0, .int .u64 0, .string ⟨#[]⟩, .slice none 0 0, .int .i64 0, .int .i64 0, .int .u64 0, .string ⟨#[]⟩, .slice none 0 0] 44)).cell? ⟨b4, o4 + k * 14 + 8, none⟩ = some (.slice p43 tsa.length c43) := hc4' 8 _ rfl
      have r4_8 : (wr.alloc (.cells #[.int .i64 0, .slice none 0 0, .int .i64 0, .slice none 0 0, .int .i64 0, .int .i64 0, .int .u64 0, .string ⟨#[]⟩, .slice none 0 0, .int .i64 0, .int .i64 0, .int .u64 0, .string ⟨#[]⟩, .slice none 0 0] 44)).cell? ⟨b4, o4 + k * 14 + 8, none⟩ = some (.slice p43 tsa.length c43) := hc4'' 8 _ rfl
      have q4_8 : ((wr.alloc (.cells #[.int .i64 kk, .slice p31 rf.length c31, .int .i64 ru, .slice p32 sb.length c32, .int .i64 opa, .int .i64 wda, .int .u64 vla, .string nma, .slice p33 tsa.length c33, .int .i64 opb, .int .i64 wdb, .int .u64 vlb, .string nmb, .slice p34 tsb.length c34] 44)).alloc (.cells #[.int .i64 0, .slice none 0 0, .int .i64 0, .slice none 0 0, .int .i64 0, .int .i64 0, .int .u64 0, .string ⟨#[]⟩, .slice none 0 0, .int .i64 0, .int .i64 0, .int .u64 0, .string ⟨#[]⟩, .slice none 0 0] 44)).cell? ⟨b4, o4 + k * 14 + 8, none⟩ = some (.slice p43 tsa.length c43) := hc4q 8 _ rfl
      have u4_8 : ((wr.alloc (.cells #[.int .i64 0, .slice none 0 0, .int .i64 0, .slice none 0 0, .int .i64 0, .int .i64 0, .int .u64 0, .string ⟨#[]⟩, .slice none 0 0, .int .i64 0, .int .i64 0, .int .u64 0, .string ⟨#[]⟩, .slice none 0 0] 44)).alloc (.cells #[.int .i64 kk, .slice p31 rf.length c31, .int .i64 ru, .slice p32 sb.length c32, .int .i64 opa, .int .i64 wda, .int .u64 vla, .string nma, .slice p33 tsa.length c33, .int .i64 opb, .int .i64 wdb, .int .u64 vlb, .string nmb, .slice p34 tsb.length c34] 44)).cell? ⟨b4, o4 + k * 14 + 8, none⟩ = some (.slice p43 tsa.length c43) := hc4z 8 _ rfl
      have s4_9 : ((wr.alloc (.cells #[.int .i64 0, .slice none 0 0, .int .i64 0, .slice none 0 0, .int .i64 0, .int .i64 0, .int .u64 0, .string ⟨#[]⟩, .slice none 0 0, .int .i64 0, .int .i64 0, .int .u64 0, .string ⟨#[]⟩, .slice none 0 0] 44)).alloc (.cells #[.int .i64 0, .slice none 0 0, .int .i64 0, .slice none 0 0, .int .i64 0, .int .i64 0, .int .u64 0, .string ⟨#[]⟩, .slice none 0 0, .int .i64 0, .int .i64 0, .int .u64 0, .string ⟨#[]⟩, .slice none 0 0] 44)).cell? ⟨b4, o4 + k * 14 + 9, none⟩ = some (.int .i64 opb) := hc4' 9 _ rfl
      have r4_9 : (wr.alloc (.cells #[.int .i64 0, .slice none 0 0, .int .i64 0, .slice none 0 0, .int .i64 0, .int .i64 0, .int .u64 0, .string ⟨#[]⟩, .slice none 0 0, .int .i64 0, .int .i64 0, .int .u64 0, .string ⟨#[]⟩, .slice none 0 0] 44)).cell? ⟨b4, o4 + k * 14 + 9, none⟩ = some (.int .i64 opb) := hc4'' 9 _ rfl
      have q4_9 : ((wr.alloc (.cells #[.int .i64 kk, .slice p31 rf.length c31, .int .i64 ru, .slice p32 sb.length c32, .int .i64 opa, .int .i64 wda, .int .u64 vla, .string nma, .slice p33 tsa.length c33, .int .i64 opb, .int .i64 wdb, .int .u64 vlb, .string nmb, .slice p34 tsb.length c34] 44)).alloc (.cells #[.int .i64 0, .slice none 0 0, .int .i64 0, .slice none 0 0, .int .i64 0, .int .i64 0, .int .u64 0, .string ⟨#[]⟩, .slice none 0 0, .int .i64 0, .int .i64 0, .int .u64 0, .string ⟨#[]⟩, .slice none 0 0] 44)).cell? ⟨b4, o4 + k * 14 + 9, none⟩ = some (.int .i64 opb) := hc4q 9 _ rfl
      have u4_9 : ((wr.alloc (.cells #[.int .i64 0, .slice none 0 0, .int .i64 0, .slice none 0 0, .int .i64 0, .int .i64 0, .int .u64 0, .string ⟨#[]⟩, .slice none 0 0, .int .i64 0, .int .i64 0, .int .u64 0, .string ⟨#[]⟩, .slice none 0 0] 44)).alloc (.cells #[.int .i64 kk, .slice p31 rf.length c31, .int .i64 ru, .slice p32 sb.length c32, .int .i64 opa, .int .i64 wda, .int .u64 vla, .string nma, .slice p33 tsa.length c33, .int .i64 opb, .int .i64 wdb, .int .u64 vlb, .string nmb, .slice p34 tsb.length c34] 44)).cell? ⟨b4, o4 + k * 14 + 9, none⟩ = some (.int .i64 opb) := hc4z 9 _ rfl
      have s4_10 : ((wr.alloc (.cells #[.int .i64 0, .slice none 0 0, .int .i64 0, .slice none 0 0, .int .i64 0, .int .i64 0, .int .u64 0, .string ⟨#[]⟩, .slice none 0 0, .int .i64 0, .int .i64 0, .int .u64 0, .string ⟨#[]⟩, .slice none 0 0] 44)).alloc (.cells #[.int .i64 0, .slice none 0 0, .int .i64 0, .slice none 0 0, .int .i64 0, .int .i64 0, .int .u64 0, .string ⟨#[]⟩, .slice none 0 0, .int .i64 0, .int .i64 0, .int .u64 0, .string ⟨#[]⟩, .slice none 0 0] 44)).cell? ⟨b4, o4 + k * 14 + 10, none⟩ = some (.int .i64 wdb) := hc4' 10 _ rfl
      have r4_10 : (wr.alloc (.cells #[.int .i64 0, .slice none 0 0, .int .i64 0, .slice none 0 0, .int .i64 0, .int .i64 0, .int .u64 0, .string ⟨#[]⟩, .slice none 0 0, .int .i64 0, .int .i64 0, .int .u64 0, .string ⟨#[]⟩, .slice none 0 0] 44)).cell? ⟨b4, o4 + k * 14 + 10, none⟩ = some (.int .i64 wdb) := hc4'' 10 _ rfl
      have q4_10 : ((wr.alloc (.cells #[.int .i64 kk, .slice p31 rf.length c31, .int .i64 ru, .slice p32 sb.length c32, .int .i64 opa, .int .i64 wda, .int .u64 vla, .string nma, .slice p33 tsa.length c33, .int .i64 opb, .int .i64 wdb, .int .u64 vlb, .string nmb, .slice p34 tsb.length c34] 44)).alloc (.cells #[.int .i64 0, .slice none 0 0, .int .i64 0, .slice none 0 0, .int .i64 0, .int .i64 0, .int .u64 0, .string ⟨#[]⟩, .slice none 0 0, .int .i64 0, .int .i64 0, .int .u64 0, .string ⟨#[]⟩, .slice none 0 0] 44)).cell? ⟨b4, o4 + k * 14 + 10, none⟩ = some (.int .i64 wdb) := hc4q 10 _ rfl
      have u4_10 : ((wr.alloc (.cells #[.int .i64 0, .slice none 0 0, .int .i64 0, .slice none 0 0, .int .i64 0, .int .i64 0, .int .u64 0, .string ⟨#[]⟩, .slice none 0 0, .int .i64 0, .int .i64 0, .int .u64 0, .string ⟨#[]⟩, .slice none 0 0] 44)).alloc (.cells #[.int .i64 kk, .slice p31 rf.length c31, .int .i64 ru, .slice p32 sb.length c32, .int .i64 opa, .int .i64 wda, .int .u64 vla, .string nma, .slice p33 tsa.length c33, .int .i64 opb, .int .i64 wdb, .int .u64 vlb, .string nmb, .slice p34 tsb.length c34] 44)).cell? ⟨b4, o4 + k * 14 + 10, none⟩ = some (.int .i64 wdb) := hc4z 10 _ rfl
      have s4_11 : ((wr.alloc (.cells #[.int .i64 0, .slice none 0 0, .int .i64 0, .slice none 0 0, .int .i64 0, .int .i64 0, .int .u64 0, .string ⟨#[]⟩, .slice none 0 0, .int .i64 0, .int .i64 0, .int .u64 0, .string ⟨#[]⟩, .slice none 0 0] 44)).alloc (.cells #[.int .i64 0, .slice none 0 0, .int .i64 0, .slice none 0 0, .int .i64 0, .int .i64 0, .int .u64 0, .string ⟨#[]⟩, .slice none 0 0, .int .i64 0, .int .i64 0, .int .u64 0, .string ⟨#[]⟩, .slice none 0 0] 44)).cell? ⟨b4, o4 + k * 14 + 11, none⟩ = some (.int .u64 vlb) := hc4' 11 _ rfl
      have r4_11 : (wr.alloc (.cells #[.int .i64 0, .slice none 0 0, .int .i64 0, .slice none 0 0, .int .i64 0, .int .i64 0, .int .u64 0, .string ⟨#[]⟩, .slice none 0 0, .int .i64 0, .int .i64 0, .int .u64 0, .string ⟨#[]⟩, .slice none 0 0] 44)).cell? ⟨b4, o4 + k * 14 + 11, none⟩ = some (.int .u64 vlb) := hc4'' 11 _ rfl
      have q4_11 : ((wr.alloc (.cells #[.int .i64 kk, .slice p31 rf.length c31, .int .i64 ru, .slice p32 sb.length c32, .int .i64 opa, .int .i64 wda, .int .u64 vla, .string nma, .slice p33 tsa.length c33, .int .i64 opb, .int .i64 wdb, .int .u64 vlb, .string nmb, .slice p34 tsb.length c34] 44)).alloc (.cells #[.int .i64 0, .slice none 0 0, .int .i64 0, .slice none 0 0, .int .i64 0, .int .i64 0, .int .u64 0, .string ⟨#[]⟩, .slice none 0 0, .int .i64 0, .int .i64 0, .int .u64 0, .string ⟨#[]⟩, .slice none 0 0] 44)).cell? ⟨b4, o4 + k * 14 + 11, none⟩ = some (.int .u64 vlb) := hc4q 11 _ rfl
      have u4_11 : ((wr.alloc (.cells #[.int .i64 0, .slice none 0 0, .int .i64 0, .slice none 0 0, .int .i64 0, .int .i64 0, .int .u64 0, .string ⟨#[]⟩, .slice none 0 0, .int .i64 0, .int .i64 0, .int .u64 0, .string ⟨#[]⟩, .slice none 0 0] 44)).alloc (.cells #[.int .i64 kk, .slice p31 rf.length c31, .int .i64 ru, .slice p32 sb.length c32, .int .i64 opa, .int .i64 wda, .int .u64 vla, .string nma, .slice p33 tsa.length c33, .int .i64 opb, .int .i64 wdb, .int .u64 vlb, .string nmb, .slice p34 tsb.length c34] 44)).cell? ⟨b4, o4 + k * 14 + 11, none⟩ = some (.int .u64 vlb) := hc4z 11 _ rfl
      have s4_12 : ((wr.alloc (.cells #[.int .i64 0, .slice none 0 0, .int .i64 0, .slice none 0 0, .int .i64 0, .int .i64 0, .int .u64 0, .string ⟨#[]⟩, .slice none 0 0, .int .i64 0, .int .i64 0, .int .u64 0, .string ⟨#[]⟩, .slice none 0 0] 44)).alloc (.cells #[.int .i64 0, .slice none 0 0, .int .i64 0, .slice none 0 0, .int .i64 0, .int .i64 0, .int .u64 0, .string ⟨#[]⟩, .slice none 0 0, .int .i64 0, .int .i64 0, .int .u64 0, .string ⟨#[]⟩, .slice none 0 0] 44)).cell? ⟨b4, o4 + k * 14 + 12, none⟩ = some (.string nmb) := hc4' 12 _ rfl
      have r4_12 : (wr.alloc (.cells #[.int .i64 0, .slice none 0 0, .int .i64 0, .slice none 0 0, .int .i64 0, .int .i64 0, .int .u64 0, .string ⟨#[]⟩, .slice none 0 0, .int .i64 0, .int .i64 0, .int .u64 0, .string ⟨#[]⟩, .slice none 0 0] 44)).cell? ⟨b4, o4 + k * 14 + 12, none⟩ = some (.string nmb) := hc4'' 12 _ rfl
      have q4_12 : ((wr.alloc (.cells #[.int .i64 kk, .slice p31 rf.length c31, .int .i64 ru, .slice p32 sb.length c32, .int .i64 opa, .int .i64 wda, .int .u64 vla, .string nma, .slice p33 tsa.length c33, .int .i64 opb, .int .i64 wdb, .int .u64 vlb, .string nmb, .slice p34 tsb.length c34] 44)).alloc (.cells #[.int .i64 0, .slice none 0 0, .int .i64 0, .slice none 0 0, .int .i64 0, .int .i64 0, .int .u64 0, .string ⟨#[]⟩, .slice none 0 0, .int .i64 0, .int .i64 0, .int .u64 0, .string ⟨#[]⟩, .slice none 0 0] 44)).cell? ⟨b4, o4 + k * 14 + 12, none⟩ = some (.string nmb) := hc4q 12 _ rfl
      have u4_12 : ((wr.alloc (.cells #[.int .i64 0, .slice none 0 0, .int .i64 0, .slice none 0 0, .int .i64 0, .int .i64 0, .int .u64 0, .string ⟨#[]⟩, .slice none 0 0, .int .i64 0, .int .i64 0, .int .u64 0, .string ⟨#[]⟩, .slice none 0 0] 44)).alloc (.cells #[.int .i64 kk, .slice p31 rf.length c31, .int .i64 ru, .slice p32 sb.length c32, .int .i64 opa, .int .i64 wda, .int .u64 vla, .string nma, .slice p33 tsa.length c33, .int .i64 opb, .int .i64 wdb, .int .u64 vlb, .string nmb, .slice p34 tsb.length c34] 44)).cell? ⟨b4, o4 + k * 14 + 12, none⟩ = some (.string nmb) := hc4z 12 _ rfl
      have s4_13 : ((wr.alloc (.cells #[.int .i64 0, .slice none 0 0, .int .i64 0, .slice none 0 0, .int .i64 0, .int .i64 0, .int .u64 0, .string ⟨#[]⟩, .slice none 0 0, .int .i64 0, .int .i64 0, .int .u64 0, .string ⟨#[]⟩, .slice none 0 0] 44)).alloc (.cells #[.int .i64 0, .slice none 0 0, .int .i64 0, .slice none 0 0, .int .i64 0, .int .i64 0, .int .u64 0, .string ⟨#[]⟩, .slice none 0 0, .int .i64 0, .int .i64 0, .int .u64 0, .string ⟨#[]⟩, .slice none 0 0] 44)).cell? ⟨b4, o4 + k * 14 + 13, none⟩ = some (.slice p44 tsb.length c44) := hc4' 13 _ rfl
      have r4_13 : (wr.alloc (.cells #[.int .i64 0, .slice none 0 0, .int .i64 0, .slice none 0 0, .int .i64 0, .int .i64 0, .int .u64 0, .string ⟨#[]⟩, .slice none 0 0, .int .i64 0, .int .i64 0, .int .u64 0, .string ⟨#[]⟩, .slice none 0 0] 44)).cell? ⟨b4, o4 + k * 14 + 13, none⟩ = some (.slice p44 tsb.length c44) := hc4'' 13 _ rfl
      have q4_13 : ((wr.alloc (.cells #[.int .i64 kk, .slice p31 rf.length c31, .int .i64 ru, .slice p32 sb.length c32, .int .i64 opa, .int .i64 wda, .int .u64 vla, .string nma, .slice p33 tsa.length c33, .int .i64 opb, .int .i64 wdb, .int .u64 vlb, .string nmb, .slice p34 tsb.length c34] 44)).alloc (.cells #[.int .i64 0, .slice none 0 0, .int .i64 0, .slice none 0 0, .int .i64 0, .int .i64 0, .int .u64 0, .string ⟨#[]⟩, .slice none 0 0, .int .i64 0, .int .i64 0, .int .u64 0, .string ⟨#[]⟩, .slice none 0 0] 44)).cell? ⟨b4, o4 + k * 14 + 13, none⟩ = some (.slice p44 tsb.length c44) := hc4q 13 _ rfl
      have u4_13 : ((wr.alloc (.cells #[.int .i64 0, .slice none 0 0, .int .i64 0, .slice none 0 0, .int .i64 0, .int .i64 0, .int .u64 0, .string ⟨#[]⟩, .slice none 0 0, .int .i64 0, .int .i64 0, .int .u64 0, .string ⟨#[]⟩, .slice none 0 0] 44)).alloc (.cells #[.int .i64 kk, .slice p31 rf.length c31, .int .i64 ru, .slice p32 sb.length c32, .int .i64 opa, .int .i64 wda, .int .u64 vla, .string nma, .slice p33 tsa.length c33, .int .i64 opb, .int .i64 wdb, .int .u64 vlb, .string nmb, .slice p34 tsb.length c34] 44)).cell? ⟨b4, o4 + k * 14 + 13, none⟩ = some (.slice p44 tsb.length c44) := hc4z 13 _ rfl
      have s3_0 : ((wr.alloc (.cells #[.int .i64 0, .slice none 0 0, .int .i64 0, .slice none 0 0, .int .i64 0, .int .i64 0, .int .u64 0, .string ⟨#[]⟩, .slice none 0 0, .int .i64 0, .int .i64 0, .int .u64 0, .string ⟨#[]⟩, .slice none 0 0] 44)).alloc (.cells #[.int .i64 0, .slice none 0 0, .int .i64 0, .slice none 0 0, .int .i64 0, .int .i64 0, .int .u64 0, .string ⟨#[]⟩, .slice none 0 0, .int .i64 0, .int .i64 0, .int .u64 0, .string ⟨#[]⟩, .slice none 0 0] 44)).cell? ⟨b3, o3 + k * 14, none⟩ = some (.int .i64 kk) := hc3' 0 _ rfl
      have r3_0 : (wr.alloc (.cells #[.int .i64 0, .slice none 0 0, .int .i64 0, .slice none 0 0, .int .i64 0, .int .i64 0, .int .u64 0, .string ⟨#[]⟩, .slice none 0 0, .int .i64 0, .int .i64 0, .int .u64 0, .string ⟨#[]⟩, .slice none 0 0] 44)).cell? ⟨b3, o3 + k * 14, none⟩ = some (.int .i64 kk) := hc3'' 0 _ rfl
      have s3_1 : ((wr.alloc (.cells #[.int .i64 0, .slice none 0 0, .int .i64 0, .slice none 0 0, .int .i64 0, .int .i64 0, .int .u64 0, .string ⟨#[]⟩, .slice none 0 0, .int .i64 0, .int .i64 0, .int .u64 0, .string ⟨#[]⟩, .slice none 0 0] 44)).alloc (.cells #[.int .i64 0, .slice none 0 0, .int .i64 0, .slice none 0 0, .int .i64 0, .int .i64 0, .int .u64 0, .string ⟨#[]⟩, .slice none 0 0, .int .i64 0, .int .i64 0, .int .u64 0, .string ⟨#[]⟩, .slice none 0 0] 44)).cell? ⟨b3, o3 + k * 14 + 1, none⟩ = some (.slice p31 rf.length c31) := hc3' 1 _ rfl
      have r3_1 : (wr.alloc (.cells #[.int .i64 0, .slice none 0 0, .int .i64 0, .slice none 0 0, .int .i64 0, .int .i64 0, .int .u64 0, .string ⟨#[]⟩, .slice none 0 0, .int .i64 0, .int .i64 0, .int .u64 0, .string ⟨#[]⟩, .slice none 0 0] 44)).cell? ⟨b3, o3 + k * 14 + 1, none⟩ = some (.slice p31 rf.length c31) := hc3'' 1 _ rfl
      have s3_2 : ((wr.alloc (.cells #[.int .i64 0, .slice none 0 0, .int .i64 0, .slice none 0 0, .int .i64 0, .int .i64 0, .int .u64 0, .string ⟨#[]⟩, .slice none 0 0, .int .i64 0, .int .i64 0, .int .u64 0, .string ⟨#[]⟩, .slice none 0 0] 44)).alloc (.cells #[.int .i64 0, .slice none 0 0, .int .i64 0, .slice none 0 0, .int .i64 0, .int .i64 0, .int .u64 0, .string ⟨#[]⟩, .slice none 0 0, .int .i64 0, .int .i64 0, .int .u64 0, .string ⟨#[]⟩, .slice none 0 0] 44)).cell? ⟨b3, o3 + k * 14 + 2, none⟩ = some (.int .i64 ru) := hc3' 2 _ rfl
      have r3_2 : (wr.alloc (.cells #[.int .i64 0, .slice none 0 0, .int .i64 0, .slice none 0 0, .int .i64 0, .int .i64 0, .int .u64 0, .string ⟨#[]⟩, .slice none 0 0, .int .i64 0, .int .i64 0, .int .u64 0, .string ⟨#[]⟩, .slice none 0 0] 44)).cell? ⟨b3, o3 + k * 14 + 2, none⟩ = some (.int .i64 ru) := hc3'' 2 _ rfl
      have s3_3 : ((wr.alloc (.cells #[.int .i64 0, .slice none 0 0, .int .i64 0, .slice none 0 0, .int .i64 0, .int .i64 0, .int .u64 0, .string ⟨#[]⟩, .slice none 0 0, .int .i64 0, .int .i64 0, .int .u64 0, .string ⟨#[]⟩, .slice none 0 0] 44)).alloc (.cells #[.int .i64 0, .slice none 0 0, .int .i64 0, .slice none 0 0, .int .i64 0, .int .i64 0, .int .u64 0, .string ⟨#[]⟩, .slice none 0 0, .int .i64 0, .int .i64 0, .int .u64 0, .string ⟨#[]⟩, .slice none 0 0] 44)).cell? ⟨b3, o3 + k * 14 + 3, none⟩ = some (.slice p32 sb.length c32) := hc3' 3 _ rfl
      have r3_3 : (wr.alloc (.cells #[.int .i64 0, .slice none 0 0, .int .i64 0, .slice none 0 0, .int .i64 0, .int .i64 0, .int .u64 0, .string ⟨#[]⟩, .slice none 0 0, .int .i64 0, .int .i64 0, .int .u64 0, .string ⟨#[]⟩, .slice none 0 0] 44)).cell? ⟨b3, o3 + k * 14 + 3, none⟩ = some (.slice p32 sb.length c32) := hc3'' 3 _ rfl
      have s3_4 : ((wr.alloc (.cells #[.int .i64 0, .slice none 0 0, .int .i64 0, .slice none 0 0, .int .i64 0, .int .i64 0, .int .u64 0, .string ⟨#[]⟩, .slice none 0 0, .int .i64 0, .int .i64 0, .int .u64 0, .string ⟨#[]⟩, .slice none 0 0] 44)).alloc (.cells #[.int .i64 0, .slice none 0 0, .int .i64 0, .slice none 0 0, .int .i64 0, .int .i64 0, .int .u64 0, .string ⟨#[]⟩, .slice none 0 0, .int .i64 0, .int .i64 0, .int .u64 0, .string ⟨#[]⟩, .slice none 0 0] 44)).cell? ⟨b3, o3 + k * 14 + 4, none⟩ = some (.int .i64 opa) := hc3' 4 _ rfl
      have r3_4 : (wr.alloc (.cells #[.int .i64 0, .slice none 0 0, .int .i64 0, .slice none 0 0, .int .i64 0, .int .i64 0, .int .u64 0, .string ⟨#[]⟩, .slice none 0 0, .int .i64 0, .int .i64 0, .int .u64 0, .string ⟨#[]⟩, .slice none 0 0] 44)).cell? ⟨b3, o3 + k * 14 + 4, none⟩ = some (.int .i64 opa) := hc3'' 4 _ rfl
      have s3_5 : ((wr.alloc (.cells #[.int .i64 0, .slice none 0 0, .int .i64 0, .slice none 0 0, .int .i64 0, .int .i64 0, .int .u64 0, .string ⟨#[]⟩, .slice none 0 0, .int .i64 0, .int .i64 0, .int .u64 0, .string ⟨#[]⟩, .slice none 0 0] 44)).alloc (.cells #[.int .i64 0, .slice none 0 0, .int .i64 0, .slice none 0 0, .int .i64 0, .int .i64 0, .int .u64 0, .string ⟨#[]⟩, .slice none 0 0, .int .i64 0, .int .i64 0, .int .u64 0, .string ⟨#[]⟩, .slice none 0 0] 44)).cell? ⟨b3, o3 + k * 14 + 5, none⟩ = some (.int .i64 wda) := hc3' 5 _ rfl
      have r3_5 : (wr.alloc (.cells #[.int .i64 0, .slice none 0 0, .int .i64 0, .slice none 0 0, .int .i64 0, .int .i64 0, .int .u64 0, .string ⟨#[]⟩, .slice none 0 0, .int .i64 0, .int .i64 0, .int .u64 0, .string ⟨#[]⟩, .slice none 0 0] 44)).cell? ⟨b3, o3 + k * 14 + 5, none⟩ = some (.int .i64 wda) := hc3'' 5 _ rfl
      have s3_6 : ((wr.alloc (.cells #[.int .i64 0, .slice none 0 0, .int .i64 0, .slice none 0 0, .int .i64 0, .int .i64 0, .int .u64 0, .string ⟨#[]⟩, .slice none 0 0, .int .i64 0, .int .i64 0, .int .u64 0, .string ⟨#[]⟩, .slice none 0 0] 44)).alloc (.cells #[.int .i64 0, .slice none 0 0, .int .i64 0, .slice none 0 0, .int .i64 0, .int .i64 0, .int .u64 0, .string ⟨#[]⟩, .slice none 0 0, .int .i64 0, .int .i64 0, .int .u64 0, .string ⟨#[]⟩, .slice none 0 0] 44)).cell? ⟨b3, o3 + k * 14 + 6, none⟩ = some (.int .u64 vla) := hc3' 6 _ rfl
      have r3_6 : (wr.alloc (.cells #[.int .i64 0, .slice none 0 0, .int .i64 0, .slice none 0 0, .int .i64 0, .int .i64 0, .int .u64 0, .string ⟨#[]⟩, .slice none 0 0, .int .i64 0, .int .i64 0, .int .u64 0, .string ⟨#[]⟩, .slice none 0 0] 44)).cell? ⟨b3, o3 + k * 14 + 6, none⟩ = some (.int .u64 vla) := hc3'' 6 _ rfl
      have s3_7 : ((wr.alloc (.cells #[.int .i64 0, .slice none 0 0, .int .i64 0, .slice none 0 0, .int .i64 0, .int .i64 0, .int .u64 0, .string ⟨#[]⟩, .slice none 0 0, .int .i64 0, .int .i64 0, .int .u64 0, .string ⟨#[]⟩, .slice none 0 0] 44)).alloc (.cells #[.int .i64 0, .slice none 0 0, .int .i64 0, .slice none 0 0, .int .i64 0, .int .i64 0, .int .u64 0, .string ⟨#[]⟩, .slice none 0 0, .int .i64 0, .int .i64 0, .int .u64 0, .string ⟨#[]⟩, .slice none 0 0] 44)).cell? ⟨b3, o3 + k * 14 + 7, none⟩ = some (.string nma) := hc3' 7 _ rfl
      have r3_7 : (wr.alloc (.cells #[.int .i64 0, .slice none 0 0, .int .i64 0, .slice none 0 0, .int .i64 0, .int .i64 0, .int .u64 0, .string ⟨#[]⟩, .slice none 0 0, .int .i64 0, .int .i64 0, .int .u64 0, .string ⟨#[]⟩, .slice none 0 0] 44)).cell? ⟨b3, o3 + k * 14 + 7, none⟩ = some (.string nma) := hc3'' 7 _ rfl
      have s3_8 : ((wr.alloc (.cells #[.int .i64 0, .slice none 0 0, .int .i64 0, .slice none 0 0, .int .i64 0, .int .i64 0, .int .u64 0, .string ⟨#[]⟩, .slice none 0 0, .int .i64 0, .int .i64 0, .int .u64 0, .string ⟨#[]⟩, .slice none 0 0] 44)).alloc (.cells #[.int .i64 0, .slice none 0 0, .int .i64 0, .slice none 0 0, .int .i64 0, .int .i64 0, .int .u64 0, .string ⟨#[]⟩, .slice none 0 0, .int .i64 0, .int .i64 0, .int .u64 0, .string ⟨#[]⟩, .slice none 0 0] 44)).cell? ⟨b3, o3 + k * 14 + 8, none⟩ = some (.slice p33 tsa.length c33) := hc3' 8 _ rfl
      have r3_8 : (wr.alloc (.cells #[.int .i64 0, .slice none 0 0, .int .i64 0, .slice none 0 0, .int .i64 0, .int .i64 0, .int .u64 0, .string ⟨#[]⟩, .slice none 0 0, .int .i64 0, .int .i64 0, .int .u64 0, .string ⟨#[]⟩, .slice none 0 0] 44)).cell? ⟨b3, o3 + k * 14 + 8, none⟩ = some (.slice p33 tsa.length c33) := hc3'' 8 _ rfl
      have s3_9 : ((wr.alloc (.cells #[.int .i64 0, .slice none 0 0, .int .i64 0, .slice none 0 0, .int .i64 0, .int .i64 0, .int .u64 0, .string ⟨#[]⟩, .slice none 0 0, .int .i64 0, .int .i64 0, .int .u64 0, .string ⟨#[]⟩, .slice none 0 0] 44)).alloc (.cells #[.int .i64 0, .slice none 0 0, .int .i64 0, .slice none 0 0, .int .i64 0, .int .i64 0, .int .u64 0, .string ⟨#[]⟩, .slice none 0 0, .int .i64 0, .int .i64 0, .int .u64 0, .string ⟨#[]⟩, .slice none 0 0] 44)).cell? ⟨b3, o3 + k * 14 + 9, none⟩ = some (.int .i64 opb) := hc3' 9 _ rfl
      have r3_9 : (wr.alloc (.cells #[.int .i64 0, .slice none 0 0, .int .i64 0, .slice none 0 0, .int .i64 0, .int .i64 0, .int .u64 0, .string ⟨#[]⟩, .slice none 0 0, .int .i64 0, .int .i64 0, .int .u64 0, .string ⟨#[]⟩, .slice none 0 0] 44)).cell? ⟨b3, o3 + k * 14 + 9, none⟩ = some (.int .i64 opb) := hc3'' 9 _ rfl
      have s3_10 : ((wr.alloc (.cells #[.int .i64 0, .slice none 0 0, .int .i64 0, .slice none 0 0, .int .i64 0, .int .i64 0, .int .u64 0, .string ⟨#[]⟩, .slice none 0 0, .int .i64 0, .int .i64 0, .int .u64 0, .string ⟨#[]⟩, .slice none 0 0] 44)).alloc (.cells #[.int .i64 0, .slice none 0 0, .int .i64 0, .slice none 0 0, .int .i64 0, .int .i64 0, .int .u64 0, .string ⟨#[]⟩, .slice none 0 0, .int .i64 0, .int .i64 0, .int .u64 0, .string ⟨#[]⟩, .slice none 0 0] 44)).cell? ⟨b3, o3 + k * 14 + 10, none⟩ = some (.int .i64 wdb) := hc3' 10 _ rfl
      have r3_10 : (wr.alloc (.cells #[.int .i64 0, .slice none 0 0, .int .i64 0, .slice none 0 0, .int .i64 0, .int .i64 0, .int .u64 0, .string ⟨#[]⟩, .slice none 0 0, .int .i64 0, .int .i64 0, .int .u64 0, .string ⟨#[]⟩, .slice none 0 0] 44)).cell? ⟨b3, o3 + k * 14 + 10, none⟩ = some (.int .i64 wdb) := hc3'' 10 _ rfl
      have s3_11 : ((wr.alloc (.cells #[.int .i64 0, .slice none 0 0, .int .i64 0, .slice none 0 0, .int .i64 0, .int .i64 0, .int .u64 0, .string ⟨#[]⟩, .slice none 0 0, .int .i64 0, .int .i64 0, .int .u64 0, .string ⟨#[]⟩, .slice none 0 0] 44)).alloc (.cells #[.int .i64 0, .slice none 0 0, .int .i64 0, .slice none 0 0, .int .i64 0, .int .i64 0, .int .u64 0, .string ⟨#[]⟩, .slice none 0 0, .int .i64 0, .int .i64 0, .int .u64 0, .string ⟨#[]⟩, .slice none 0 0] 44)).cell? ⟨b3, o3 + k * 14 + 11, none⟩ = some (.int .u64 vlb) := hc3' 11 _ rfl
      have r3_11 : (wr.alloc (.cells #[.int .i64 0, .slice none 0 0, .int .i64 0, .slice none 0 0, .int .i64 0, .int .i64 0, .int .u64 0, .string ⟨#[]⟩, .slice none 0 0, .int .i64 0, .int .i64 0, .int .u64 0, .string ⟨#[]⟩, .slice none 0 0] 44)).cell? ⟨b3, o3 + k * 14 + 11, none⟩ = some (.int .u64 vlb) := hc3'' 11 _ rfl
      have s3_12 : ((wr.alloc (.cells #[.int .i64 0, .slice none 0 0, .int .i64 0, .slice none 0 0, .int .i64 0, .int .i64 0, .int .u64 0, .string ⟨#[]⟩, .slice none 0 0, .int .i64 0, .int .i64 0, .int .u64 0, .string ⟨#[]⟩, .slice none 0 0] 44)).alloc (.cells #[.int .i64 0, .slice none 0 0, .int .i64 0, .slice none 0 0, .int .i64 0, .int .i64 0, .int .u64 0, .string ⟨#[]⟩, .slice none 0 0, .int .i64 0, .int .i64 0, .int .u64 0, .string ⟨#[]⟩, .slice none 0 0] 44)).cell? ⟨b3, o3 + k * 14 + 12, none⟩ = some (.string nmb) := hc3' 12 _ rfl
      have r3_12 : (wr.alloc (.cells #[.int .i64 0, .slice none 0 0, .int .i64 0, .slice none 0 0, .int .i64 0, .int .i64 0, .int .u64 0, .string ⟨#[]⟩, .slice none 0 0, .int .i64 0, .int .i64 0, .int .u64 0, .string ⟨#[]⟩, .slice none 0 0] 44)).cell? ⟨b3, o3 + k * 14 + 12, none⟩ = some (.string nmb) := hc3'' 12 _ rfl
      have s3_13 : ((wr.alloc (.cells #[.int .i64 0, .slice none 0 0, .int .i64 0, .slice none 0 0, .int .i64 0, .int .i64 0, .int .u64 0, .string ⟨#[]⟩, .slice none 0 0, .int .i64 0, .int .i64 0, .int .u64 0, .string ⟨#[]⟩, .slice none 0 0] 44)).alloc (.cells #[.int .i64 0, .slice none 0 0, .int .i64 0, .slice none 0 0, .int .i64 0, .int .i64 0, .int .u64 0, .string ⟨#[]⟩, .slice none 0 0, .int .i64 0, .int .i64 0, .int .u64 0, .string ⟨#[]⟩, .slice none 0 0] 44)).cell? ⟨b3, o3 + k * 14 + 13, none⟩ = some (.slice p34 tsb.length c34) := hc3' 13 _ rfl
      have r3_13 : (wr.alloc (.cells #[.int .i64 0, .slice none 0 0, .int .i64 0, .slice none 0 0, .int .i64 0, .int .i64 0, .int .u64 0, .string ⟨#[]⟩, .slice none 0 0, .int .i64 0, .int .i64 0, .int .u64 0, .string ⟨#[]⟩, .slice none 0 0] 44)).cell? ⟨b3, o3 + k * 14 + 13, none⟩ = some (.slice p34 tsb.length c34) := hc3'' 13 _ rfl
      have n3_0 := cell_of_row _ wr.heap.size 0 _ 44 (0, 0) t2'
      have n4_0 := cell_of_row _ (wr.heap.size + 1) 0 _ 44 (0, 0) t3'
      have f3_0 := frozen_of_row _ wr.heap.size 0 _ 44 t2'
      have f4_0 := frozen_of_row _ (wr.heap.size + 1) 0 _ 44 t3'
      have n3_1 := cell_of_row _ wr.heap.size 1 _ 44 (0, 0) t2'
      have n4_1 := cell_of_row _ (wr.heap.size + 1) 1 _ 44 (0, 0) t3'
      have f3_1 := frozen_of_row _ wr.heap.size 1 _ 44 t2'
      have f4_1 := frozen_of_row _ (wr.heap.size + 1) 1 _ 44 t3'
      have n3_2 := cell_of_row _ wr.heap.size 2 _ 44 (0, 0) t2'
      have n4_2 := cell_of_row _ (wr.heap.size + 1) 2 _ 44 (0, 0) t3'
      have f3_2 := frozen_of_row _ wr.heap.size 2 _ 44 t2'
      have f4_2 := frozen_of_row _ (wr.heap.size + 1) 2 _ 44 t3'
      have n3_3 := cell_of_row _ wr.heap.size 3 _ 44 (0, 0) t2'
      have n4_3 := cell_of_row _ (wr.heap.size + 1) 3 _ 44 (0, 0) t3'
      have f3_3 := frozen_of_row _ wr.heap.size 3 _ 44 t2'
      have f4_3 := frozen_of_row _ (wr.heap.size + 1) 3 _ 44 t3'
      have n3_4 := cell_of_row _ wr.heap.size 4 _ 44 (0, 0) t2'
      have n4_4 := cell_of_row _ (wr.heap.size + 1) 4 _ 44 (0, 0) t3'
      have f3_4 := frozen_of_row _ wr.heap.size 4 _ 44 t2'
      have f4_4 := frozen_of_row _ (wr.heap.size + 1) 4 _ 44 t3'
      have n3_5 := cell_of_row _ wr.heap.size 5 _ 44 (0, 0) t2'
      have n4_5 := cell_of_row _ (wr.heap.size + 1) 5 _ 44 (0, 0) t3'
      have f3_5 := frozen_of_row _ wr.heap.size 5 _ 44 t2'
      have f4_5 := frozen_of_row _ (wr.heap.size + 1) 5 _ 44 t3'
      have n3_6 := cell_of_row _ wr.heap.size 6 _ 44 (0, 0) t2'
      have n4_6 := cell_of_row _ (wr.heap.size + 1) 6 _ 44 (0, 0) t3'
      have f3_6 := frozen_of_row _ wr.heap.size 6 _ 44 t2'
      have f4_6 := frozen_of_row _ (wr.heap.size + 1) 6 _ 44 t3'
      have n3_7 := cell_of_row _ wr.heap.size 7 _ 44 (0, 0) t2'
      have n4_7 := cell_of_row _ (wr.heap.size + 1) 7 _ 44 (0, 0) t3'
      have f3_7 := frozen_of_row _ wr.heap.size 7 _ 44 t2'
      have f4_7 := frozen_of_row _ (wr.heap.size + 1) 7 _ 44 t3'
      have n3_8 := cell_of_row _ wr.heap.size 8 _ 44 (0, 0) t2'
      have n4_8 := cell_of_row _ (wr.heap.size + 1) 8 _ 44 (0, 0) t3'
      have f3_8 := frozen_of_row _ wr.heap.size 8 _ 44 t2'
      have f4_8 := frozen_of_row _ (wr.heap.size + 1) 8 _ 44 t3'
      have n3_9 := cell_of_row _ wr.heap.size 9 _ 44 (0, 0) t2'
      have n4_9 := cell_of_row _ (wr.heap.size + 1) 9 _ 44 (0, 0) t3'
      have f3_9 := frozen_of_row _ wr.heap.size 9 _ 44 t2'
      have f4_9 := frozen_of_row _ (wr.heap.size + 1) 9 _ 44 t3'
      have n3_10 := cell_of_row _ wr.heap.size 10 _ 44 (0, 0) t2'
      have n4_10 := cell_of_row _ (wr.heap.size + 1) 10 _ 44 (0, 0) t3'
      have f3_10 := frozen_of_row _ wr.heap.size 10 _ 44 t2'
      have f4_10 := frozen_of_row _ (wr.heap.size + 1) 10 _ 44 t3'
      have n3_11 := cell_of_row _ wr.heap.size 11 _ 44 (0, 0) t2'
      have n4_11 := cell_of_row _ (wr.heap.size + 1) 11 _ 44 (0, 0) t3'
      have f3_11 := frozen_of_row _ wr.heap.size 11 _ 44 t2'
      have f4_11 := frozen_of_row _ (wr.heap.size + 1) 11 _ 44 t3'
      have n3_12 := cell_of_row _ wr.heap.size 12 _ 44 (0, 0) t2'
      have n4_12 := cell_of_row _ (wr.heap.size + 1) 12 _ 44 (0, 0) t3'
      have f3_12 := frozen_of_row _ wr.heap.size 12 _ 44 t2'
      have f4_12 := frozen_of_row _ (wr.heap.size + 1) 12 _ 44 t3'
      have n3_13 := cell_of_row _ wr.heap.size 13 _ 44 (0, 0) t2'
      have n4_13 := cell_of_row _ (wr.heap.size + 1) 13 _ 44 (0, 0) t3'
      have f3_13 := frozen_of_row _ wr.heap.size 13 _ 44 t2'
      have f4_13 := frozen_of_row _ (wr.heap.size + 1) 13 _ 44 t3'
      clear hc3 hc4 hp3 hp4 e ok1 ok2 ok3 ok4 ok5 hc4z hc4' hc4'' hc3' hc3'' hc4q t1 t2' t3'
      go_wp2_with fail
      go_region
      all_goals clear z3_0 z4_0 s4_0 r4_0 q4_0 u4_0 s3_0 r3_0 n3_0 n4_0 f3_0 f4_0 z3_1 z4_1 s4_1 r4_1 q4_1 u4_1 s3_1 r3_1 n3_1 n4_1 f3_1 f4_1 z3_2 z4_2 s4_2 r4_2 q4_2 u4_2 s3_2 r3_2 n3_2 n4_2 f3_2 f4_2 z3_3 z4_3 s4_3 r4_3 q4_3 u4_3 s3_3 r3_3 n3_3 n4_3 f3_3 f4_3 z3_4 z4_4 s4_4 r4_4 q4_4 u4_4 s3_4 r3_4 n3_4 n4_4 f3_4 f4_4 z3_5 z4_5 s4_5 r4_5 q4_5 u4_5 s3_5 r3_5 n3_5 n4_5 f3_5 f4_5 z3_6 z4_6 s4_6 r4_6 q4_6 u4_6 s3_6 r3_6 n3_6 n4_6 f3_6 f4_6 z3_7 z4_7 s4_7 r4_7 q4_7 u4_7 s3_7 r3_7 n3_7 n4_7 f3_7 f4_7 z3_8 z4_8 s4_8 r4_8 q4_8 u4_8 s3_8 r3_8 n3_8 n4_8 f3_8 f4_8 z3_9 z4_9 s4_9 r4_9 q4_9 u4_9 s3_9 r3_9 n3_9 n4_9 f3_9 f4_9 z3_10 z4_10 s4_10 r4_10 q4_10 u4_10 s3_10 r3_10 n3_10 n4_10 f3_10 f4_10 z3_11 z4_11 s4_11 r4_11 q4_11 u4_11 s3_11 r3_11 n3_11 n4_11 f3_11 f4_11 z3_12 z4_12 s4_12 r4_12 q4_12 u4_12 s3_12 r3_12 n3_12 n4_12 f3_12 f4_12 z3_13 z4_13 s4_13 r4_13 q4_13 u4_13 s3_13 r3_13 n3_13 n4_13 f3_13 f4_13
      · have h := two_boxes wr #[.int .i64 kk, .slice p31 rf.length c31, .int .i64 ru, .slice p32 sb.length c32, .int .i64 opa, .int .i64 wda, .int .u64 vla, .string nma, .slice p33 tsa.length c33, .int .i64 opb, .int .i64 wdb, .int .u64 vlb, .string nmb, .slice p34 tsb.length c34] #[.int .i64 kk, .slice p41 rf.length c41, .int .i64 ru, .slice p42 sb.length c42, .int .i64 opa, .int .i64 wda, .int .u64 vla, .string nma, .slice p43 tsa.length c43, .int .i64 opb, .int .i64 wdb, .int .u64 vlb, .string nmb, .slice p44 tsb.length c44] 44 44
        have KW := Lib.hid (show BK wr ((wr.alloc (.cells #[.int .i64 kk, .slice p31 rf.length c31, .int .i64 ru, .slice p32 sb.length c32, .int .i64 opa, .int .i64 wda, .int .u64 vla, .string nma, .slice p33 tsa.length c33, .int .i64 opb, .int .i64 wdb, .int .u64 vlb, .string nmb, .slice p34 tsb.length c34] 44)).alloc (.cells #[.int .i64 kk, .slice p41 rf.length c41, .int .i64 ru, .slice p42 sb.length c42, .int .i64 opa, .int .i64 wda, .int .u64 vla, .string nma, .slice p43 tsa.length c43, .int .i64 opb, .int .i64 wdb, .int .u64 vlb, .string nmb, .slice p44 tsb.length c44] 44)).drew from bk_drew h.1)
        have N3 := Lib.hid (show ((wr.alloc (.cells #[.int .i64 kk, .slice p31 rf.length c31, .int .i64 ru, .slice p32 sb.length c32, .int .i64 opa, .int .i64 wda, .int .u64 vla, .string nma, .slice p33 tsa.length c33, .int .i64 opb, .int .i64 wdb, .int .u64 vlb, .string nmb, .slice p34 tsb.length c34] 44)).alloc (.cells #[.int .i64 kk, .slice p41 rf.length c41, .int .i64 ru, .slice p42 sb.length c42, .int .i64 opa, .int .i64 wda, .int .u64 vla, .string nma, .slice p43 tsa.length c43, .int .i64 opb, .int .i64 wdb, .int .u64 vlb, .string nmb, .slice p44 tsb.length c44] 44)).drew.heap[wr.heap.size]? = some (.cells #[.int .i64 kk, .slice p31 rf.length c31, .int .i64 ru, .slice p32 sb.length c32, .int .i64 opa, .int .i64 wda, .int .u64 vla, .string nma, .slice p33 tsa.length c33, .int .i64 opb, .int .i64 wdb, .int .u64 vlb, .string nmb, .slice p34 tsb.length c34] 44 (0, 0)) from h.2.1)
        have N4 := Lib.hid (show ((wr.alloc (.cells #[.int .i64 kk, .slice p31 rf.length c31, .int .i64 ru, .slice p32 sb.length c32, .int .i64 opa, .int .i64 wda, .int .u64 vla, .string nma, .slice p33 tsa.length c33, .int .i64 opb, .int .i64 wdb, .int .u64 vlb, .string nmb, .slice p34 tsb.length c34] 44)).alloc (.cells #[.int .i64 kk, .slice p41 rf.length c41, .int .i64 ru, .slice p42 sb.length c42, .int .i64 opa, .int .i64 wda, .int .u64 vla, .string nma, .slice p43 tsa.length c43, .int .i64 opb, .int .i64 wdb, .int .u64 vlb, .string nmb, .slice p44 tsb.length c44] 44)).drew.heap[(wr.heap.size + 1)]? = some (.cells #[.int .i64 kk, .slice p41 rf.length c41, .int .i64 ru, .slice p42 sb.length c42, .int .i64 opa, .int .i64 wda, .int .u64 vla, .string nma, .slice p43 tsa.length c43, .int .i64 opb, .int .i64 wdb, .int .u64 vlb, .string nmb, .slice p44 tsb.length c44] 44 (0, 0)) from h.2.2)
        clear h
        generalize ((wr.alloc (.cells #[.int .i64 kk, .slice p31 rf.length c31, .int .i64 ru, .slice p32 sb.length c32, .int .i64 opa, .int .i64 wda, .int .u64 vla, .string nma, .slice p33 tsa.length c33, .int .i64 opb, .int .i64 wdb, .int .u64 vlb, .string nmb, .slice p34 tsb.length c34] 44)).alloc (.cells #[.int .i64 kk, .slice p41 rf.length c41, .int .i64 ru, .slice p42 sb.length c42, .int .i64 opa, .int .i64 wda, .int .u64 vla, .string nma, .slice p43 tsa.length c43, .int .i64 opb, .int .i64 wdb, .int .u64 vlb, .string nmb, .slice p44 tsb.length c44] 44)).drew = w7 at *
        have E18 := Lib.hid (fun wc (hb : BK w7 wc) => (C18.out wc (bk_tr KW.out hb)).mono (fun e w' (h : _ ∧ _) => And.intro h.1 (bk_tr hb h.2)))
        have E42 := Lib.hid (fun wc (hb : BK w7 wc) => (C42.out wc (bk_tr KW.out hb)).mono (fun e w' (h : _ ∧ _) => And.intro h.1 (bk_tr hb h.2)))
        have E43 := Lib.hid (fun wc (hb : BK w7 wc) => (C43.out wc (bk_tr KW.out hb)).mono (fun e w' (h : _ ∧ _) => And.intro h.1 (bk_tr hb h.2)))
        have F43 := Lib.hid (fun wc (hb : BK w7 wc) => (D43.out wc (bk_tr KW.out hb)).mono (fun e w' (h : _ ∧ _) => And.intro h.1 (bk_tr hb h.2)))
        simp only [T.op, T.wd, T.vl, T.nm, T.ts] at E43 F43
        have KD := Lib.hid (fun wc (hb : BK w7 wc) => And.intro ((bk_block hb (Array.getElem?_eq_some_iff.1 N3.out).1).trans N3.out) ((bk_block hb (Array.getElem?_eq_some_iff.1 N4.out).1).trans N4.out))
        have x3_0 := cell_of_row w7 wr.heap.size 0 _ 44 (0, 0) N3.out
        have x3_1 := cell_of_row w7 wr.heap.size 1 _ 44 (0, 0) N3.out
        have x3_2 := cell_of_row w7 wr.heap.size 2 _ 44 (0, 0) N3.out
        have x3_3 := cell_of_row w7 wr.heap.size 3 _ 44 (0, 0) N3.out
        have x3_4 := cell_of_row w7 wr.heap.size 4 _ 44 (0, 0) N3.out
        have x3_5 := cell_of_row w7 wr.heap.size 5 _ 44 (0, 0) N3.out
        have x3_6 := cell_of_row w7 wr.heap.size 6 _ 44 (0, 0) N3.out
        have x3_7 := cell_of_row w7 wr.heap.size 7 _ 44 (0, 0) N3.out
        have x3_8 := cell_of_row w7 wr.heap.size 8 _ 44 (0, 0) N3.out
        have x3_9 := cell_of_row w7 wr.heap.size 9 _ 44 (0, 0) N3.out
        have x3_10 := cell_of_row w7 wr.heap.size 10 _ 44 (0, 0) N3.out
        have x3_11 := cell_of_row w7 wr.heap.size 11 _ 44 (0, 0) N3.out
        have x3_12 := cell_of_row w7 wr.heap.size 12 _ 44 (0, 0) N3.out
        have x3_13 := cell_of_row w7 wr.heap.size 13 _ 44 (0, 0) N3.out
        have x4_0 := cell_of_row w7 (wr.heap.size + 1) 0 _ 44 (0, 0) N4.out
        have x4_1 := cell_of_row w7 (wr.heap.size + 1) 1 _ 44 (0, 0) N4.out
        have x4_2 := cell_of_row w7 (wr.heap.size + 1) 2 _ 44 (0, 0) N4.out
        have x4_3 := cell_of_row w7 (wr.heap.size + 1) 3 _ 44 (0, 0) N4.out
        have x4_4 := cell_of_row w7 (wr.heap.size + 1) 4 _ 44 (0, 0) N4.out
        have x4_5 := cell_of_row w7 (wr.heap.size + 1) 5 _ 44 (0, 0) N4.out
        have x4_6 := cell_of_row w7 (wr.heap.size + 1) 6 _ 44 (0, 0) N4.out
        have x4_7 := cell_of_row w7 (wr.heap.size + 1) 7 _ 44 (0, 0) N4.out
        have x4_8 := cell_of_row w7 (wr.heap.size + 1) 8 _ 44 (0, 0) N4.out
        have x4_9 := cell_of_row w7 (wr.heap.size + 1) 9 _ 44 (0, 0) N4.out
        have x4_10 := cell_of_row w7 (wr.heap.size + 1) 10 _ 44 (0, 0) N4.out
        have x4_11 := cell_of_row w7 (wr.heap.size + 1) 11 _ 44 (0, 0) N4.out
        have x4_12 := cell_of_row w7 (wr.heap.size + 1) 12 _ 44 (0, 0) N4.out
        have x4_13 := cell_of_row w7 (wr.heap.size + 1) 13 _ 44 (0, 0) N4.out
        go_wp2_with fail
        refine (E18.out _ ?_).mono ?_
        · first | exact BK.refl _ | exact bk_drew (BK.refl _) | exact HB.out | exact bk_drew HB.out
        rintro e w8 ⟨rfl, hb⟩
        clear x3_0 x3_1 x3_2 x3_3 x3_4 x3_5 x3_6 x3_7 x3_8 x3_9 x3_10 x3_11 x3_12 x3_13 x4_0 x4_1 x4_2 x4_3 x4_4 x4_5 x4_6 x4_7 x4_8 x4_9 x4_10 x4_11 x4_12 x4_13
        have HB := Lib.hid hb
        clear hb
        obtain ⟨m3, m4⟩ := KD.out _ HB.out
        have x3_0 := cell_of_row w8 wr.heap.size 0 _ 44 (0, 0) m3
        have x4_0 := cell_of_row w8 (wr.heap.size + 1) 0 _ 44 (0, 0) m4
        have x3_1 := cell_of_row w8 wr.heap.size 1 _ 44 (0, 0) m3
        have x4_1 := cell_of_row w8 (wr.heap.size + 1) 1 _ 44 (0, 0) m4
        have x3_2 := cell_of_row w8 wr.heap.size 2 _ 44 (0, 0) m3
        have x4_2 := cell_of_row w8 (wr.heap.size + 1) 2 _ 44 (0, 0) m4
        have x3_3 := cell_of_row w8 wr.heap.size 3 _ 44 (0, 0) m3
        have x4_3 := cell_of_row w8 (wr.heap.size + 1) 3 _ 44 (0, 0) m4
        have x3_4 := cell_of_row w8 wr.heap.size 4 _ 44 (0, 0) m3
        have x4_4 := cell_of_row w8 (wr.heap.size + 1) 4 _ 44 (0, 0) m4
        have x3_5 := cell_of_row w8 wr.heap.size 5 _ 44 (0, 0) m3
        have x4_5 := cell_of_row w8 (wr.heap.size + 1) 5 _ 44 (0, 0) m4
        have x3_6 := cell_of_row w8 wr.heap.size 6 _ 44 (0, 0) m3
        have x4_6 := cell_of_row w8 (wr.heap.size + 1) 6 _ 44 (0, 0) m4
        have x3_7 := cell_of_row w8 wr.heap.size 7 _ 44 (0, 0) m3
        have x4_7 := cell_of_row w8 (wr.heap.size + 1) 7 _ 44 (0, 0) m4
        have x3_8 := cell_of_row w8 wr.heap.size 8 _ 44 (0, 0) m3
        have x4_8 := cell_of_row w8 (wr.heap.size + 1) 8 _ 44 (0, 0) m4
        have x3_9 := cell_of_row w8 wr.heap.size 9 _ 44 (0, 0) m3
        have x4_9 := cell_of_row w8 (wr.heap.size + 1) 9 _ 44 (0, 0) m4
        have x3_10 := cell_of_row w8 wr.heap.size 10 _ 44 (0, 0) m3
        have x4_10 := cell_of_row w8 (wr.heap.size + 1) 10 _ 44 (0, 0) m4
        have x3_11 := cell_of_row w8 wr.heap.size 11 _ 44 (0, 0) m3
        have x4_11 := cell_of_row w8 (wr.heap.size + 1) 11 _ 44 (0, 0) m4
        have x3_12 := cell_of_row w8 wr.heap.size 12 _ 44 (0, 0) m3
        have x4_12 := cell_of_row w8 (wr.heap.size + 1) 12 _ 44 (0, 0) m4
        have x3_13 := cell_of_row w8 wr.heap.size 13 _ 44 (0, 0) m3
        have x4_13 := cell_of_row w8 (wr.heap.size + 1) 13 _ 44 (0, 0) m4
        clear m3 m4
        go_wp2_with fail
        refine (E42.out _ ?_).mono ?_
        · first | exact BK.refl _ | exact bk_drew (BK.refl _) | exact HB.out | exact bk_drew HB.out
        rintro e w9 ⟨rfl, hb⟩
        clear HB
        clear x3_0 x3_1 x3_2 x3_3 x3_4 x3_5 x3_6 x3_7 x3_8 x3_9 x3_10 x3_11 x3_12 x3_13 x4_0 x4_1 x4_2 x4_3 x4_4 x4_5 x4_6 x4_7 x4_8 x4_9 x4_10 x4_11 x4_12 x4_13
        have HB := Lib.hid hb
        clear hb
        obtain ⟨m3, m4⟩ := KD.out _ HB.out
        have x3_0 := cell_of_row w9 wr.heap.size 0 _ 44 (0, 0) m3
        have x4_0 := cell_of_row w9 (wr.heap.size + 1) 0 _ 44 (0, 0) m4
        have x3_1 := cell_of_row w9 wr.heap.size 1 _ 44 (0, 0) m3
        have x4_1 := cell_of_row w9 (wr.heap.size + 1) 1 _ 44 (0, 0) m4
        have x3_2 := cell_of_row w9 wr.heap.size 2 _ 44 (0, 0) m3
        have x4_2 := cell_of_row w9 (wr.heap.size + 1) 2 _ 44 (0, 0) m4
        have x3_3 := cell_of_row w9 wr.heap.size 3 _ 44 (0, 0) m3
        have x4_3 := cell_of_row w9 (wr.heap.size + 1) 3 _ 44 (0, 0) m4
        have x3_4 := cell_of_row w9 wr.heap.size 4 _ 44 (0, 0) m3
        have x4_4 := cell_of_row w9 (wr.heap.size + 1) 4 _ 44 (0, 0) m4
        have x3_5 := cell_of_row w9 wr.heap.size 5 _ 44 (0, 0) m3
        have x4_5 := cell_of_row w9 (wr.heap.size + 1) 5 _ 44 (0, 0) m4
        have x3_6 := cell_of_row w9 wr.heap.size 6 _ 44 (0, 0) m3
        have x4_6 := cell_of_row w9 (wr.heap.size + 1) 6 _ 44 (0, 0) m4
        have x3_7 := cell_of_row w9 wr.heap.size 7 _ 44 (0, 0) m3
        have x4_7 := cell_of_row w9 (wr.heap.size + 1) 7 _ 44 (0, 0) m4
        have x3_8 := cell_of_row w9 wr.heap.size 8 _ 44 (0, 0) m3
        have x4_8 := cell_of_row w9 (wr.heap.size + 1) 8 _ 44 (0, 0) m4
        have x3_9 := cell_of_row w9 wr.heap.size 9 _ 44 (0, 0) m3
        have x4_9 := cell_of_row w9 (wr.heap.size + 1) 9 _ 44 (0, 0) m4
        have x3_10 := cell_of_row w9 wr.heap.size 10 _ 44 (0, 0) m3
        have x4_10 := cell_of_row w9 (wr.heap.size + 1) 10 _ 44 (0, 0) m4
        have x3_11 := cell_of_row w9 wr.heap.size 11 _ 44 (0, 0) m3
        have x4_11 := cell_of_row w9 (wr.heap.size + 1) 11 _ 44 (0, 0) m4
        have x3_12 := cell_of_row w9 wr.heap.size 12 _ 44 (0, 0) m3
        have x4_12 := cell_of_row w9 (wr.heap.size + 1) 12 _ 44 (0, 0) m4
        have x3_13 := cell_of_row w9 wr.heap.size 13 _ 44 (0, 0) m3
        have x4_13 := cell_of_row w9 (wr.heap.size + 1) 13 _ 44 (0, 0) m4
        clear m3 m4
        go_wp2_with fail
        refine (E43.out _ ?_).mono ?_
        · first | exact BK.refl _ | exact bk_drew (BK.refl _) | exact HB.out | exact bk_drew HB.out
        rintro e w10 ⟨rfl, hb⟩
        clear HB
        clear x3_0 x3_1 x3_2 x3_3 x3_4 x3_5 x3_6 x3_7 x3_8 x3_9 x3_10 x3_11 x3_12 x3_13 x4_0 x4_1 x4_2 x4_3 x4_4 x4_5 x4_6 x4_7 x4_8 x4_9 x4_10 x4_11 x4_12 x4_13
        have HB := Lib.hid hb
        clear hb
        obtain ⟨m3, m4⟩ := KD.out _ HB.out
        have x3_0 := cell_of_row w10 wr.heap.size 0 _ 44 (0, 0) m3
        have x4_0 := cell_of_row w10 (wr.heap.size + 1) 0 _ 44 (0, 0) m4
        have x3_1 := cell_of_row w10 wr.heap.size 1 _ 44 (0, 0) m3
        have x4_1 := cell_of_row w10 (wr.heap.size + 1) 1 _ 44 (0, 0) m4
        have x3_2 := cell_of_row w10 wr.heap.size 2 _ 44 (0, 0) m3
        have x4_2 := cell_of_row w10 (wr.heap.size + 1) 2 _ 44 (0, 0) m4
        have x3_3 := cell_of_row w10 wr.heap.size 3 _ 44 (0, 0) m3
        have x4_3 := cell_of_row w10 (wr.heap.size + 1) 3 _ 44 (0, 0) m4
        have x3_4 := cell_of_row w10 wr.heap.size 4 _ 44 (0, 0) m3
        have x4_4 := cell_of_row w10 (wr.heap.size + 1) 4 _ 44 (0, 0) m4
        have x3_5 := cell_of_row w10 wr.heap.size 5 _ 44 (0, 0) m3
        have x4_5 := cell_of_row w10 (wr.heap.size + 1) 5 _ 44 (0, 0) m4
        have x3_6 := cell_of_row w10 wr.heap.size 6 _ 44 (0, 0) m3
        have x4_6 := cell_of_row w10 (wr.heap.size + 1) 6 _ 44 (0, 0) m4
        have x3_7 := cell_of_row w10 wr.heap.size 7 _ 44 (0, 0) m3
        have x4_7 := cell_of_row w10 (wr.heap.size + 1) 7 _ 44 (0, 0) m4
        have x3_8 := cell_of_row w10 wr.heap.size 8 _ 44 (0, 0) m3
        have x4_8 := cell_of_row w10 (wr.heap.size + 1) 8 _ 44 (0, 0) m4
        have x3_9 := cell_of_row w10 wr.heap.size 9 _ 44 (0, 0) m3
        have x4_9 := cell_of_row w10 (wr.heap.size + 1) 9 _ 44 (0, 0) m4
        have x3_10 := cell_of_row w10 wr.heap.size 10 _ 44 (0, 0) m3
        have x4_10 := cell_of_row w10 (wr.heap.size + 1) 10 _ 44 (0, 0) m4
        have x3_11 := cell_of_row w10 wr.heap.size 11 _ 44 (0, 0) m3
        have x4_11 := cell_of_row w10 (wr.heap.size + 1) 11 _ 44 (0, 0) m4
        have x3_12 := cell_of_row w10 wr.heap.size 12 _ 44 (0, 0) m3
        have x4_12 := cell_of_row w10 (wr.heap.size + 1) 12 _ 44 (0, 0) m4
        have x3_13 := cell_of_row w10 wr.heap.size 13 _ 44 (0, 0) m3
        have x4_13 := cell_of_row w10 (wr.heap.size + 1) 13 _ 44 (0, 0) m4
        clear m3 m4
        go_wp2_with fail
        refine (F43.out _ ?_).mono ?_
        · first | exact BK.refl _ | exact bk_drew (BK.refl _) | exact HB.out | exact bk_drew HB.out
        rintro e w11 ⟨rfl, hb⟩
        clear HB
        clear x3_0 x3_1 x3_2 x3_3 x3_4 x3_5 x3_6 x3_7 x3_8 x3_9 x3_10 x3_11 x3_12 x3_13 x4_0 x4_1 x4_2 x4_3 x4_4 x4_5 x4_6 x4_7 x4_8 x4_9 x4_10 x4_11 x4_12 x4_13
        have HB := Lib.hid hb
        clear hb
        obtain ⟨m3, m4⟩ := KD.out _ HB.out
        have x3_0 := cell_of_row w11 wr.heap.size 0 _ 44 (0, 0) m3
        have x4_0 := cell_of_row w11 (wr.heap.size + 1) 0 _ 44 (0, 0) m4
        have x3_1 := cell_of_row w11 wr.heap.size 1 _ 44 (0, 0) m3
        have x4_1 := cell_of_row w11 (wr.heap.size + 1) 1 _ 44 (0, 0) m4
        have x3_2 := cell_of_row w11 wr.heap.size 2 _ 44 (0, 0) m3
        have x4_2 := cell_of_row w11 (wr.heap.size + 1) 2 _ 44 (0, 0) m4
        have x3_3 := cell_of_row w11 wr.heap.size 3 _ 44 (0, 0) m3
        have x4_3 := cell_of_row w11 (wr.heap.size + 1) 3 _ 44 (0, 0) m4
        have x3_4 := cell_of_row w11 wr.heap.size 4 _ 44 (0, 0) m3
        have x4_4 := cell_of_row w11 (wr.heap.size + 1) 4 _ 44 (0, 0) m4
        have x3_5 := cell_of_row w11 wr.heap.size 5 _ 44 (0, 0) m3
        have x4_5 := cell_of_row w11 (wr.heap.size + 1) 5 _ 44 (0, 0) m4
        have x3_6 := cell_of_row w11 wr.heap.size 6 _ 44 (0, 0) m3
        have x4_6 := cell_of_row w11 (wr.heap.size + 1) 6 _ 44 (0, 0) m4
        have x3_7 := cell_of_row w11 wr.heap.size 7 _ 44 (0, 0) m3
        have x4_7 := cell_of_row w11 (wr.heap.size + 1) 7 _ 44 (0, 0) m4
        have x3_8 := cell_of_row w11 wr.heap.size 8 _ 44 (0, 0) m3
        have x4_8 := cell_of_row w11 (wr.heap.size + 1) 8 _ 44 (0, 0) m4
        have x3_9 := cell_of_row w11 wr.heap.size 9 _ 44 (0, 0) m3
        have x4_9 := cell_of_row w11 (wr.heap.size + 1) 9 _ 44 (0, 0) m4
        have x3_10 := cell_of_row w11 wr.heap.size 10 _ 44 (0, 0) m3
        have x4_10 := cell_of_row w11 (wr.heap.size + 1) 10 _ 44 (0, 0) m4
        have x3_11 := cell_of_row w11 wr.heap.size 11 _ 44 (0, 0) m3
        have x4_11 := cell_of_row w11 (wr.heap.size + 1) 11 _ 44 (0, 0) m4
        have x3_12 := cell_of_row w11 wr.heap.size 12 _ 44 (0, 0) m3
        have x4_12 := cell_of_row w11 (wr.heap.size + 1) 12 _ 44 (0, 0) m4
        have x3_13 := cell_of_row w11 wr.heap.size 13 _ 44 (0, 0) m3
        have x4_13 := cell_of_row w11 (wr.heap.size + 1) 13 _ 44 (0, 0) m4
        clear m3 m4
        have KN := Lib.hid (bk_tr KB.out (bk_tr KW.out HB.out))
        go_wp2_with fail
        go_roundw
        case rel => exact ⟨k + 1, by have := HLT.out; omega, by go_num, KN.out⟩
        case measure => have := HLT.out; simp [intOf]; omega
      · have h := two_boxes wr #[.int .i64 kk, .slice p41 rf.length c41, .int .i64 ru, .slice p42 sb.length c42, .int .i64 opa, .int .i64 wda, .int .u64 vla, .string nma, .slice p43 tsa.length c43, .int .i64 opb, .int .i64 wdb, .int .u64 vlb, .string nmb, .slice p44 tsb.length c44] #[.int .i64 kk, .slice p31 rf.length c31, .int .i64 ru, .slice p32 sb.length c32, .int .i64 opa, .int .i64 wda, .int .u64 vla, .string nma, .slice p33 tsa.length c33, .int .i64 opb, .int .i64 wdb, .int .u64 vlb, .string nmb, .slice p34 tsb.length c34] 44 44
        have KW := Lib.hid (show BK wr ((wr.alloc (.cells #[.int .i64 kk, .slice p41 rf.length c41, .int .i64 ru, .slice p42 sb.length c42, .int .i64 opa, .int .i64 wda, .int .u64 vla, .string nma, .slice p43 tsa.length c43, .int .i64 opb, .int .i64 wdb, .int .u64 vlb, .string nmb, .slice p44 tsb.length c44] 44)).alloc (.cells #[.int .i64 kk, .slice p31 rf.length c31, .int .i64 ru, .slice p32 sb.length c32, .int .i64 opa, .int .i64 wda, .int .u64 vla, .string nma, .slice p33 tsa.length c33, .int .i64 opb, .int .i64 wdb, .int .u64 vlb, .string nmb, .slice p34 tsb.length c34] 44)).drew from bk_drew h.1)
        have N3 := Lib.hid (show ((wr.alloc (.cells #[.int .i64 kk, .slice p41 rf.length c41, .int .i64 ru, .slice p42 sb.length c42, .int .i64 opa, .int .i64 wda, .int .u64 vla, .string nma, .slice p43 tsa.length c43, .int .i64 opb, .int .i64 wdb, .int .u64 vlb, .string nmb, .slice p44 tsb.length c44] 44)).alloc (.cells #[.int .i64 kk, .slice p31 rf.length c31, .int .i64 ru, .slice p32 sb.length c32, .int .i64 opa, .int .i64 wda, .int .u64 vla, .string nma, .slice p33 tsa.length c33, .int .i64 opb, .int .i64 wdb, .int .u64 vlb, .string nmb, .slice p34 tsb.length c34] 44)).drew.heap[(wr.heap.size + 1)]? = some (.cells #[.int .i64 kk, .slice p31 rf.length c31, .int .i64 ru, .slice p32 sb.length c32, .int .i64 opa, .int .i64 wda, .int .u64 vla, .string nma, .slice p33 tsa.length c33, .int .i64 opb, .int .i64 wdb, .int .u64 vlb, .string nmb, .slice p34 tsb.length c34] 44 (0, 0)) from h.2.2)
        have N4 := Lib.hid (show ((wr.alloc (.cells #[.int .i64 kk, .slice p41 rf.length c41, .int .i64 ru, .slice p42 sb.length c42, .int .i64 opa, .int .i64 wda, .int .u64 vla, .string nma, .slice p43 tsa.length c43, .int .i64 opb, .int .i64 wdb, .int .u64 vlb, .string nmb, .slice p44 tsb.length c44] 44)).alloc (.cells #[.int .i64 kk, .slice p31 rf.length c31, .int .i64 ru, .slice p32 sb.length c32, .int .i64 opa, .int .i64 wda, .int .u64 vla, .string nma, .slice p33 tsa.length c33, .int .i64 opb, .int .i64 wdb, .int .u64 vlb, .string nmb, .slice p34 tsb.length c34] 44)).drew.heap[wr.heap.size]? = some (.cells #[.int .i64 kk, .slice p41 rf.length c41, .int .i64 ru, .slice p42 sb.length c42, .int .i64 opa, .int .i64 wda, .int .u64 vla, .string nma, .slice p43 tsa.length c43, .int .i64 opb, .int .i64 wdb, .int .u64 vlb, .string nmb, .slice p44 tsb.length c44] 44 (0, 0)) from h.2.1)
        clear h
        generalize ((wr.alloc (.cells #[.int .i64 kk, .slice p41 rf.length c41, .int .i64 ru, .slice p42 sb.length c42, .int .i64 opa, .int .i64 wda, .int .u64 vla, .string nma, .slice p43 tsa.length c43, .int .i64 opb, .int .i64 wdb, .int .u64 vlb, .string nmb, .slice p44 tsb.length c44] 44)).alloc (.cells #[.int .i64 kk, .slice p31 rf.length c31, .int .i64 ru, .slice p32 sb.length c32, .int .i64 opa, .int .i64 wda, .int .u64 vla, .string nma, .slice p33 tsa.length c33, .int .i64 opb, .int .i64 wdb, .int .u64 vlb, .string nmb, .slice p34 tsb.length c34] 44)).drew = w7 at *
        have E18 := Lib.hid (fun wc (hb : BK w7 wc) => (C18.out wc (bk_tr KW.out hb)).mono (fun e w' (h : _ ∧ _) => And.intro h.1 (bk_tr hb h.2)))
        have E42 := Lib.hid (fun wc (hb : BK w7 wc) => (C42.out wc (bk_tr KW.out hb)).mono (fun e w' (h : _ ∧ _) => And.intro h.1 (bk_tr hb h.2)))
        have E43 := Lib.hid (fun wc (hb : BK w7 wc) => (C43.out wc (bk_tr KW.out hb)).mono (fun e w' (h : _ ∧ _) => And.intro h.1 (bk_tr hb h.2)))
        have F43 := Lib.hid (fun wc (hb : BK w7 wc) => (D43.out wc (bk_tr KW.out hb)).mono (fun e w' (h : _ ∧ _) => And.intro h.1 (bk_tr hb h.2)))
        simp only [T.op, T.wd, T.vl, T.nm, T.ts] at E43 F43
        have KD := Lib.hid (fun wc (hb : BK w7 wc) => And.intro ((bk_block hb (Array.getElem?_eq_some_iff.1 N3.out).1).trans N3.out) ((bk_block hb (Array.getElem?_eq_some_iff.1 N4.out).1).trans N4.out))
        have x3_0 := cell_of_row w7 (wr.heap.size + 1) 0 _ 44 (0, 0) N3.out
        have x3_1 := cell_of_row w7 (wr.heap.size + 1) 1 _ 44 (0, 0) N3.out
        have x3_2 := cell_of_row w7 (wr.heap.size + 1) 2 _ 44 (0, 0) N3.out
        have x3_3 := cell_of_row w7 (wr.heap.size + 1) 3 _ 44 (0, 0) N3.out
        have x3_4 := cell_of_row w7 (wr.heap.size + 1) 4 _ 44 (0, 0) N3.out
        have x3_5 := cell_of_row w7 (wr.heap.size + 1) 5 _ 44 (0, 0) N3.out
        have x3_6 := cell_of_row w7 (wr.heap.size + 1) 6 _ 44 (0, 0) N3.out
        have x3_7 := cell_of_row w7 (wr.heap.size + 1) 7 _ 44 (0, 0) N3.out
        have x3_8 := cell_of_row w7 (wr.heap.size + 1) 8 _ 44 (0, 0) N3.out
        have x3_9 := cell_of_row w7 (wr.heap.size + 1) 9 _ 44 (0, 0) N3.out
        have x3_10 := cell_of_row w7 (wr.heap.size + 1) 10 _ 44 (0, 0) N3.out
        have x3_11 := cell_of_row w7 (wr.heap.size + 1) 11 _ 44 (0, 0) N3.out
        have x3_12 := cell_of_row w7 (wr.heap.size + 1) 12 _ 44 (0, 0) N3.out
        have x3_13 := cell_of_row w7 (wr.heap.size + 1) 13 _ 44 (0, 0) N3.out
        have x4_0 := cell_of_row w7 wr.heap.size 0 _ 44 (0, 0) N4.out
        have x4_1 := cell_of_row w7 wr.heap.size 1 _ 44 (0, 0) N4.out
        have x4_2 := cell_of_row w7 wr.heap.size 2 _ 44 (0, 0) N4.out
        have x4_3 := cell_of_row w7 wr.heap.size 3 _ 44 (0, 0) N4.out
        have x4_4 := cell_of_row w7 wr.heap.size 4 _ 44 (0, 0) N4.out
        have x4_5 := cell_of_row w7 wr.heap.size 5 _ 44 (0, 0) N4.out
        have x4_6 := cell_of_row w7 wr.heap.size 6 _ 44 (0, 0) N4.out
        have x4_7 := cell_of_row w7 wr.heap.size 7 _ 44 (0, 0) N4.out
        have x4_8 := cell_of_row w7 wr.heap.size 8 _ 44 (0, 0) N4.out
        have x4_9 := cell_of_row w7 wr.heap.size 9 _ 44 (0, 0) N4.out
        have x4_10 := cell_of_row w7 wr.heap.size 10 _ 44 (0, 0) N4.out
        have x4_11 := cell_of_row w7 wr.heap.size 11 _ 44 (0, 0) N4.out
        have x4_12 := cell_of_row w7 wr.heap.size 12 _ 44 (0, 0) N4.out
        have x4_13 := cell_of_row w7 wr.heap.size 13 _ 44 (0, 0) N4.out
        go_wp2_with fail
        refine (E18.out _ ?_).mono ?_
        · first | exact BK.refl _ | exact bk_drew (BK.refl _) | exact HB.out | exact bk_drew HB.out
        rintro e w8 ⟨rfl, hb⟩
        clear x3_0 x3_1 x3_2 x3_3 x3_4 x3_5 x3_6 x3_7 x3_8 x3_9 x3_10 x3_11 x3_12 x3_13 x4_0 x4_1 x4_2 x4_3 x4_4 x4_5 x4_6 x4_7 x4_8 x4_9 x4_10 x4_11 x4_12 x4_13
        have HB := Lib.hid hb
        clear hb
        obtain ⟨m3, m4⟩ := KD.out _ HB.out
        have x3_0 := cell_of_row w8 (wr.heap.size + 1) 0 _ 44 (0, 0) m3
        have x4_0 := cell_of_row w8 wr.heap.size 0 _ 44 (0, 0) m4
        have x3_1 := cell_of_row w8 (wr.heap.size + 1) 1 _ 44 (0, 0) m3
        have x4_1 := cell_of_row w8 wr.heap.size 1 _ 44 (0, 0) m4
        have x3_2 := cell_of_row w8 (wr.heap.size + 1) 2 _ 44 (0, 0) m3
        have x4_2 := cell_of_row w8 wr.heap.size 2 _ 44 (0, 0) m4
        have x3_3 := cell_of_row w8 (wr.heap.size + 1) 3 _ 44 (0, 0) m3
        have x4_3 := cell_of_row w8 wr.heap.size 3 _ 44 (0, 0) m4
        have x3_4 := cell_of_row w8 (wr.heap.size + 1) 4 _ 44 (0, 0) m3
        have x4_4 := cell_of_row w8 wr.heap.size 4 _ 44 (0, 0) m4
        have x3_5 := cell_of_row w8 (wr.heap.size + 1) 5 _ 44 (0, 0) m3
        have x4_5 := cell_of_row w8 wr.heap.size 5 _ 44 (0, 0) m4
        have x3_6 := cell_of_row w8 (wr.heap.size + 1) 6 _ 44 (0, 0) m3
        have x4_6 := cell_of_row w8 wr.heap.size 6 _ 44 (0, 0) m4
        have x3_7 := cell_of_row w8 (wr.heap.size + 1) 7 _ 44 (0, 0) m3
        have x4_7 := cell_of_row w8 wr.heap.size 7 _ 44 (0, 0) m4
        have x3_8 := cell_of_row w8 (wr.heap.size + 1) 8 _ 44 (0, 0) m3
        have x4_8 := cell_of_row w8 wr.heap.size 8 _ 44 (0, 0) m4
        have x3_9 := cell_of_row w8 (wr.heap.size + 1) 9 _ 44 (0, 0) m3
        have x4_9 := cell_of_row w8 wr.heap.size 9 _ 44 (0, 0) m4
        have x3_10 := cell_of_row w8 (wr.heap.size + 1) 10 _ 44 (0, 0) m3
        have x4_10 := cell_of_row w8 wr.heap.size 10 _ 44 (0, 0) m4
        have x3_11 := cell_of_row w8 (wr.heap.size + 1) 11 _ 44 (0, 0) m3
        have x4_11 := cell_of_row w8 wr.heap.size 11 _ 44 (0, 0) m4
        have x3_12 := cell_of_row w8 (wr.heap.size + 1) 12 _ 44 (0, 0) m3
        have x4_12 := cell_of_row w8 wr.heap.size 12 _ 44 (0, 0) m4
        have x3_13 := cell_of_row w8 (wr.heap.size + 1) 13 _ 44 (0, 0) m3
        have x4_13 := cell_of_row w8 wr.heap.size 13 _ 44 (0, 0) m4
        clear m3 m4
        go_wp2_with fail
        refine (E42.out _ ?_).mono ?_
        · first | exact BK.refl _ | exact bk_drew (BK.refl _) | exact HB.out | exact bk_drew HB.out
        rintro e w9 ⟨rfl, hb⟩
        clear HB
        clear x3_0 x3_1 x3_2 x3_3 x3_4 x3_5 x3_6 x3_7 x3_8 x3_9 x3_10 x3_11 x3_12 x3_13 x4_0 x4_1 x4_2 x4_3 x4_4 x4_5 x4_6 x4_7 x4_8 x4_9 x4_10 x4_11 x4_12 x4_13
        have HB := Lib.hid hb
        clear hb
        obtain ⟨m3, m4⟩ := KD.out _ HB.out
        have x3_0 := cell_of_row w9 (wr.heap.size + 1) 0 _ 44 (0, 0) m3
        have x4_0 := cell_of_row w9 wr.heap.size 0 _ 44 (0, 0) m4
        have x3_1 := cell_of_row w9 (wr.heap.size + 1) 1 _ 44 (0, 0) m3
        have x4_1 := cell_of_row w9 wr.heap.size 1 _ 44 (0, 0) m4
        have x3_2 := cell_of_row w9 (wr.heap.size + 1) 2 _ 44 (0, 0) m3
        have x4_2 := cell_of_row w9 wr.heap.size 2 _ 44 (0, 0) m4
        have x3_3 := cell_of_row w9 (wr.heap.size + 1) 3 _ 44 (0, 0) m3
        have x4_3 := cell_of_row w9 wr.heap.size 3 _ 44 (0, 0) m4
        have x3_4 := cell_of_row w9 (wr.heap.size + 1) 4 _ 44 (0, 0) m3
        have x4_4 := cell_of_row w9 wr.heap.size 4 _ 44 (0, 0) m4
        have x3_5 := cell_of_row w9 (wr.heap.size + 1) 5 _ 44 (0, 0) m3
        have x4_5 := cell_of_row w9 wr.heap.size 5 _ 44 (0, 0) m4
        have x3_6 := cell_of_row w9 (wr.heap.size + 1) 6 _ 44 (0, 0) m3
        have x4_6 := cell_of_row w9 wr.heap.size 6 _ 44 (0, 0) m4
        have x3_7 := cell_of_row w9 (wr.heap.size + 1) 7 _ 44 (0, 0) m3
        have x4_7 := cell_of_row w9 wr.heap.size 7 _ 44 (0, 0) m4
        have x3_8 := cell_of_row w9 (wr.heap.size + 1) 8 _ 44 (0, 0) m3
        have x4_8 := cell_of_row w9 wr.heap.size 8 _ 44 (0, 0) m4
        have x3_9 := cell_of_row w9 (wr.heap.size + 1) 9 _ 44 (0, 0) m3
        have x4_9 := cell_of_row w9 wr.heap.size 9 _ 44 (0, 0) m4
        have x3_10 := cell_of_row w9 (wr.heap.size + 1) 10 _ 44 (0, 0) m3
        have x4_10 := cell_of_row w9 wr.heap.size 10 _ 44 (0, 0) m4
        have x3_11 := cell_of_row w9 (wr.heap.size + 1) 11 _ 44 (0, 0) m3
        have x4_11 := cell_of_row w9 wr.heap.size 11 _ 44 (0, 0) m4
        have x3_12 := cell_of_row w9 (wr.heap.size + 1) 12 _ 44 (0, 0) m3
        have x4_12 := cell_of_row w9 wr.heap.size 12 _ 44 (0, 0) m4
        have x3_13 := cell_of_row w9 (wr.heap.size + 1) 13 _ 44 (0, 0) m3
        have x4_13 := cell_of_row w9 wr.heap.size 13 _ 44 (0, 0) m4
        clear m3 m4
        go_wp2_with fail
        refine (E43.out _ ?_).mono ?_
        · first | exact BK.refl _ | exact bk_drew (BK.refl _) | exact HB.out | exact bk_drew HB.out
        rintro e w10 ⟨rfl, hb⟩
        clear HB
        clear x3_0 x3_1 x3_2 x3_3 x3_4 x3_5 x3_6 x3_7 x3_8 x3_9 x3_10 x3_11 x3_12 x3_13 x4_0 x4_1 x4_2 x4_3 x4_4 x4_5 x4_6 x4_7 x4_8 x4_9 x4_10 x4_11 x4_12 x4_13
        have HB := Lib.hid hb
        clear hb
        obtain ⟨m3, m4⟩ := KD.out _ HB.out
        have x3_0 := cell_of_row w10 (wr.heap.size + 1) 0 _ 44 (0, 0) m3
        have x4_0 := cell_of_row w10 wr.heap.size 0 _ 44 (0, 0) m4
        have x3_1 := cell_of_row w10 (wr.heap.size + 1) 1 _ 44 (0, 0) m3
        have x4_1 := cell_of_row w10 wr.heap.size 1 _ 44 (0, 0) m4
        have x3_2 := cell_of_row w10 (wr.heap.size + 1) 2 _ 44 (0, 0) m3
        have x4_2 := cell_of_row w10 wr.heap.size 2 _ 44 (0, 0) m4
        have x3_3 := cell_of_row w10 (wr.heap.size + 1) 3 _ 44 (0, 0) m3
        have x4_3 := cell_of_row w10 wr.heap.size 3 _ 44 (0, 0) m4
        have x3_4 := cell_of_row w10 (wr.heap.size + 1) 4 _ 44 (0, 0) m3
        have x4_4 := cell_of_row w10 wr.heap.size 4 _ 44 (0, 0) m4
        have x3_5 := cell_of_row w10 (wr.heap.size + 1) 5 _ 44 (0, 0) m3
        have x4_5 := cell_of_row w10 wr.heap.size 5 _ 44 (0, 0) m4
        have x3_6 := cell_of_row w10 (wr.heap.size + 1) 6 _ 44 (0, 0) m3
        have x4_6 := cell_of_row w10 wr.heap.size 6 _ 44 (0, 0) m4
        have x3_7 := cell_of_row w10 (wr.heap.size + 1) 7 _ 44 (0, 0) m3
        have x4_7 := cell_of_row w10 wr.heap.size 7 _ 44 (0, 0) m4
        have x3_8 := cell_of_row w10 (wr.heap.size + 1) 8 _ 44 (0, 0) m3
        have x4_8 := cell_of_row w10 wr.heap.size 8 _ 44 (0, 0) m4
        have x3_9 := cell_of_row w10 (wr.heap.size + 1) 9 _ 44 (0, 0) m3
        have x4_9 := cell_of_row w10 wr.heap.size 9 _ 44 (0, 0) m4
        have x3_10 := cell_of_row w10 (wr.heap.size + 1) 10 _ 44 (0, 0) m3
        have x4_10 := cell_of_row w10 wr.heap.size 10 _ 44 (0, 0) m4
        have x3_11 := cell_of_row w10 (wr.heap.size + 1) 11 _ 44 (0, 0) m3
        have x4_11 := cell_of_row w10 wr.heap.size 11 _ 44 (0, 0) m4
        have x3_12 := cell_of_row w10 (wr.heap.size + 1) 12 _ 44 (0, 0) m3
        have x4_12 := cell_of_row w10 wr.heap.size 12 _ 44 (0, 0) m4
        have x3_13 := cell_of_row w10 (wr.heap.size + 1) 13 _ 44 (0, 0) m3
        have x4_13 := cell_of_row w10 wr.heap.size 13 _ 44 (0, 0) m4
        clear m3 m4
        go_wp2_with fail
        refine (F43.out _ ?_).mono ?_
        · first | exact BK.refl _ | exact bk_drew (BK.refl _) | exact HB.out | exact bk_drew HB.out
        rintro e w11 ⟨rfl, hb⟩
        clear HB
        clear x3_0 x3_1 x3_2 x3_3 x3_4 x3_5 x3_6 x3_7 x3_8 x3_9 x3_10 x3_11 x3_12 x3_13 x4_0 x4_1 x4_2 x4_3 x4_4 x4_5 x4_6 x4_7 x4_8 x4_9 x4_10 x4_11 x4_12 x4_13
        have HB := Lib.hid hb
        clear hb
        obtain ⟨m3, m4⟩ := KD.out _ HB.out
        have x3_0 := cell_of_row w11 (wr.heap.size + 1) 0 _ 44 (0, 0) m3
        have x4_0 := cell_of_row w11 wr.heap.size 0 _ 44 (0, 0) m4
        have x3_1 := cell_of_row w11 (wr.heap.size + 1) 1 _ 44 (0, 0) m3
        have x4_1 := cell_of_row w11 wr.heap.size 1 _ 44 (0, 0) m4
        have x3_2 := cell_of_row w11 (wr.heap.size + 1) 2 _ 44 (0, 0) m3
        have x4_2 := cell_of_row w11 wr.heap.size 2 _ 44 (0, 0) m4
        have x3_3 := cell_of_row w11 (wr.heap.size + 1) 3 _ 44 (0, 0) m3
        have x4_3 := cell_of_row w11 wr.heap.size 3 _ 44 (0, 0) m4
        have x3_4 := cell_of_row w11 (wr.heap.size + 1) 4 _ 44 (0, 0) m3
        have x4_4 := cell_of_row w11 wr.heap.size 4 _ 44 (0, 0) m4
        have x3_5 := cell_of_row w11 (wr.heap.size + 1) 5 _ 44 (0, 0) m3
        have x4_5 := cell_of_row w11 wr.heap.size 5 _ 44 (0, 0) m4
        have x3_6 := cell_of_row w11 (wr.heap.size + 1) 6 _ 44 (0, 0) m3
        have x4_6 := cell_of_row w11 wr.heap.size 6 _ 44 (0, 0) m4
        have x3_7 := cell_of_row w11 (wr.heap.size + 1) 7 _ 44 (0, 0) m3
        have x4_7 := cell_of_row w11 wr.heap.size 7 _ 44 (0, 0) m4
        have x3_8 := cell_of_row w11 (wr.heap.size + 1) 8 _ 44 (0, 0) m3
        have x4_8 := cell_of_row w11 wr.heap.size 8 _ 44 (0, 0) m4
        have x3_9 := cell_of_row w11 (wr.heap.size + 1) 9 _ 44 (0, 0) m3
        have x4_9 := cell_of_row w11 wr.heap.size 9 _ 44 (0, 0) m4
        have x3_10 := cell_of_row w11 (wr.heap.size + 1) 10 _ 44 (0, 0) m3
        have x4_10 := cell_of_row w11 wr.heap.size 10 _ 44 (0, 0) m4
        have x3_11 := cell_of_row w11 (wr.heap.size + 1) 11 _ 44 (0, 0) m3
        have x4_11 := cell_of_row w11 wr.heap.size 11 _ 44 (0, 0) m4
        have x3_12 := cell_of_row w11 (wr.heap.size + 1) 12 _ 44 (0, 0) m3
        have x4_12 := cell_of_row w11 wr.heap.size 12 _ 44 (0, 0) m4
        have x3_13 := cell_of_row w11 (wr.heap.size + 1) 13 _ 44 (0, 0) m3
        have x4_13 := cell_of_row w11 wr.heap.size 13 _ 44 (0, 0) m4
        clear m3 m4
        have KN := Lib.hid (bk_tr KB.out (bk_tr KW.out HB.out))
        go_wp2_with fail
        go_roundw
        case rel => exact ⟨k + 1, by have := HLT.out; omega, by go_num, KN.out⟩
        case measure => have := HLT.out; simp [intOf]; omega
end Go.Proofs.YtnlpiaejfmdckaaDoor
