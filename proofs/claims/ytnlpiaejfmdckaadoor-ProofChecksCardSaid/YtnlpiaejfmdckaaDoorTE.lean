/- Rules, the program's and the reference's. -/
import Derived.Test.YtnlpiaejfmdckaaDoorTD
import Derived.Test.YtnlpiaejfmdckaaDoorM
namespace Go.Proofs.YtnlpiaejfmdckaaDoor
open Go.RowKit Go.Lib Go.Sort
set_option linter.unusedVariables false
set_option linter.unusedSimpArgs false
def rlL : List S → List Int
  | [] => []
  | s :: ss => (if s.k = 5 then [s.ru] else []) ++ rlL ss
theorem rlL_app : ∀ (ss tt : List S), rlL (ss ++ tt) = rlL ss ++ rlL tt
  | [], tt => rfl
  | s :: ss, tt => by
    show (if s.k = 5 then [s.ru] else []) ++ rlL (ss ++ tt) = ((if s.k = 5 then [s.ru] else []) ++ rlL ss) ++ rlL tt
    rw [rlL_app ss tt, List.append_assoc]
theorem rlL_len : ∀ (ss : List S), (rlL ss).length ≤ ss.length
  | [] => Nat.le_refl _
  | s :: ss => by
    have := rlL_len ss
    show ((if s.k = 5 then [s.ru] else []) ++ rlL ss).length ≤ ss.length + 1
    rw [List.length_append]
    split <;> simp <;> omega
theorem rlL_take {ss : List S} {k : Nat} (h : k < ss.length) : rlL (ss.take (k + 1)) = rlL (ss.take k) ++ (if ss[k].k = 5 then [ss[k].ru] else []) := by
  rw [List.take_succ_eq_append_getElem h, rlL_app]
  show _ ++ ((if ss[k].k = 5 then [ss[k].ru] else []) ++ []) = _
  rw [List.append_nil]
def RLP (w : World) (zs : List Int) (e : Ending) (w' : World) : Prop := (∃ q d, e = .returned (.slice q zs.length d) ∧ RowI (mem 0 w') w' q d zs) ∧ BK w w'
set_option maxRecDepth 100000 in
set_option maxHeartbeats 4000000 in
theorem rules20 (ss : List S) (hl : ss.length ≤ 1000) (w : World) (p : Option Addr) (c : Nat) (hp : RowS (mem 0 w) w p c ss) : Calls Tryd.prog 20 #[.slice p ss.length c] w (RLP w (Ids.ofL (rlL ss))) := by
  have HP := Lib.hid hp
  have HL := Lib.hid hl
  have RL := Lib.hid (rlL_len ss)
  clear hp hl
  unfold RLP
  go_enter Tryd.func20, Tryd.ntmps20
  go_wp2_with fail
  go_loopw [3, 4] (fun xv iv wr => ∃ (k : Nat) (acc : List Int), k ≤ ss.length ∧ iv = .int .i64 (k : Int) ∧ acc = rlL (ss.take k) ∧ LI w.heap.size wr xv acc ∧ BK w wr) (fun _ iv _ => ss.length - (intOf iv).toNat)
  case atStart => exact ⟨0, [], Nat.zero_le _, rfl, rfl, LI.nil _ _, BK.refl _⟩
  case round =>
    obtain ⟨k, acc, hk, rfl, hac, hli, hb⟩ := hrel
    have AC := Lib.hid hac
    have LL := Lib.hid hli
    have KB := Lib.hid hb
    clear hac hli hb
    obtain ⟨p4, c4, rfl⟩ := LL.out.shape
    by_cases e : k = ss.length
    · have hd : decide (k < ss.length) = false := by simp [e]
      have AE : acc = rlL ss := by rw [AC.out, e, List.take_length]
      have C38 := Lib.hid (Ids.rof_any (.slice p4 acc.length c4) acc wr (Ids.Rd.own LL.out) (by rw [AE]; have := RL.out; have := HL.out; omega))
      rw [AE] at C38
      rw [AE]
      subst e
      go_wp2_with fail
      refine C38.out.mono ?_
      rintro e w5 ⟨v5, rfl, h5, b5⟩
      have L5 := Lib.hid (show LI wr.heap.size w5 v5 (Ids.ofL (rlL ss)) from h5)
      have K5 := Lib.hid (show BK wr w5 from b5)
      clear h5 b5
      obtain ⟨p6, c6, rfl⟩ := L5.out.shape
      go_wp2_with fail
      go_ret
      exact ⟨⟨p6, c6, rfl, L5.out.row.bk (BK.refl _) (Nat.zero_le _)⟩, bk_tr KB.out K5.out⟩
    · have hlt : k < ss.length := by omega
      have hd : decide (k < ss.length) = true := by simpa using hlt
      have hki : (k : Int) < (ss.length : Int) := by omega
      have ei : IntKind.i64.wrap ((k : Int) + 1) = (k : Int) + 1 := by have := HL.out; exact IntWalk.i64_in _ (by omega)
      have HLT := Lib.hid hlt
      have RT := rlL_take hlt
      rw [← AC.out] at RT
      have AL := Lib.hid (show acc.length ≤ k from by rw [AC.out]; exact Nat.le_trans (rlL_len _) (by rw [List.length_take]; omega))
      obtain ⟨b, o, q, rfl, -, hc, hps⟩ := (HP.out.bk KB.out (Nat.le_refl _)).get hlt
      obtain ⟨z0, z1, z2, -⟩ := hc.all
      clear hc hps e z1
      generalize ss[k] = s at *
      obtain ⟨kd, rf, ru, sb, a, bb⟩ := s
      simp only [S.k, S.ru] at *
      by_cases h5 : kd = 5
      · subst h5
        have R2 := Lib.hid (show acc ++ [ru] = rlL (ss.take (k + 1)) from by rw [RT]; simp)
        clear RT
        go_wp2_with (at_builtin; go_must (refine wpList_pushI rfl _ _ rfl w.heap.size _ acc rfl LL.out ru rfl ?hlo ?hsm ?_))
        case hlo => exact bk_size KB.out
        case hsm => have := AL.out; have := HL.out; have := HLT.out; omega
        intro g4 cap4 w5 hl5 hs5
        have K5 := Lib.hid (Step.bk_new KB.out hs5 (fun j hj => (LL.out.lt _ hj).1))
        have L5 := Lib.hid (show LI w.heap.size w5 (.slice (some ⟨g4, 0, none⟩) (acc.length + 1) cap4) (acc ++ [ru]) from hl5)
        clear hl5 hs5
        go_wp2_with fail
        go_roundw
        case rel => exact ⟨k + 1, acc ++ [ru], by have := HLT.out; omega, by go_num, R2.out, L5.out, K5.out⟩
        case measure => have := HLT.out; simp [intOf]; omega
      · have h5' : (kd == 5) = false := by simp [h5]
        have R2 := Lib.hid (show acc = rlL (ss.take (k + 1)) from by rw [RT, if_neg h5, List.append_nil])
        clear RT
        go_wp2_with fail
        go_roundw
        case rel => exact ⟨k + 1, acc, by have := HLT.out; omega, by go_num, R2.out, LL.out, KB.out⟩
        case measure => have := HLT.out; simp [intOf]; omega
set_option maxRecDepth 100000 in
set_option maxHeartbeats 4000000 in
theorem rules19 (ss : List S) (hl : ss.length ≤ 1000) (w : World) (p : Option Addr) (c : Nat) (hp : RowS (mem 0 w) w p c ss) : Calls Tryd.prog 19 #[.slice p ss.length c] w (RLP w (Ids.ofL (rlL ss))) := by
  have HP := Lib.hid hp
  have HL := Lib.hid hl
  have RL := Lib.hid (rlL_len ss)
  clear hp hl
  unfold RLP
  go_enter Tryd.func19, Tryd.ntmps19
  go_wp2_with fail
  go_loopw [3, 8] (fun xv iv wr => ∃ (k : Nat) (acc : List Int), k ≤ ss.length ∧ iv = .int .i64 (k : Int) ∧ acc = rlL (ss.take k) ∧ LI w.heap.size wr xv acc ∧ BK w wr) (fun _ iv _ => ss.length - (intOf iv).toNat)
  case atStart => exact ⟨0, [], Nat.zero_le _, rfl, rfl, LI.nil _ _, BK.refl _⟩
  case round =>
    obtain ⟨k, acc, hk, rfl, hac, hli, hb⟩ := hrel
    have AC := Lib.hid hac
    have LL := Lib.hid hli
    have KB := Lib.hid hb
    clear hac hli hb
    obtain ⟨p4, c4, rfl⟩ := LL.out.shape
    by_cases e : k = ss.length
    · have hd : decide (k < ss.length) = false := by simp [e]
      have AE : acc = rlL ss := by rw [AC.out, e, List.take_length]
      have AL : acc.length ≤ 1000 := by rw [AE]; have := RL.out; have := HL.out; omega
      have ALH := Lib.hid AL
      have AEH := Lib.hid AE
      subst e
      clear AE
      by_cases h0 : acc.length = 0
      · obtain rfl := List.eq_nil_of_length_eq_zero h0
        have CS := Lib.hid (fun w => Tryd.slices_Sort_int_none p4 c4 w)
        have CC := Lib.hid (fun w => Tryd.slices_Compact_int_empty p4 c4 w)
        have E0 := Lib.hid (show Ids.ofL (rlL ss) = [] from by rw [← AEH.out]; rfl)
        rw [List.length_nil]
        go_wp2_with fail
        refine (CS.out _).mono ?_
        rintro e w5 ⟨rfl, rfl⟩
        go_wp2_with fail
        refine (CC.out _).mono ?_
        rintro e w6 ⟨rfl, rfl⟩
        go_wp2_with fail
        go_ret
        exact ⟨⟨p4, c4, by rw [E0.out]; rfl, by rw [E0.out]; exact LL.out.row.bk (BK.refl _) (Nat.zero_le _)⟩, KB.out⟩
      · obtain ⟨g, cap, hv⟩ := Joins.ownsRow_form LL.out (by omega)
        rw [hv]
        have hown : wr.ownsRow w.heap.size 3 1 (.slice (some ⟨g, 0, none⟩) acc.length cap) acc.length (Ids.nums acc) := by rw [← hv]; exact LL.out
        have hgl := (World.ownsRow.lt hown g rfl)
        have hso := Lib.hid (Tryd.slices_Sort_int g 0 cap acc wr (Ids.holds_own hown) hgl.2 (by omega))
        have HG := Lib.hid hgl
        have HO := Lib.hid hown
        clear hv hown hgl h0 AL
        go_wp2_with fail
        refine hso.out.mono ?_
        rintro e w2 ⟨rfl, n, os, hw2⟩
        have hlen : (acc.mergeSort fun x y => decide (x ≤ y)).length = acc.length := List.length_mergeSort _
        obtain ⟨hown2, hg2⟩ := Ids.putCut (q := n) HO.out hlen os
        rw [← hw2] at hown2 hg2
        have hcomp := Ids.compact_ofL acc
        generalize (acc.mergeSort fun x y => decide (x ≤ y)) = ys at hlen hown2 hcomp hw2
        clear hw2 hso
        rw [← hlen] at hown2
        have hcap : ys.length ≤ cap := Ids.row_cap hown2
        have hco := Tryd.slices_Compact_int g 0 cap ys w2 (Ids.holds_own hown2) (by have := ALH.out; omega) hcap
        rw [hcomp, hlen] at hco
        have hco' := Lib.hid hco
        have hlen' := Lib.hid hlen
        have HO2 := Lib.hid hown2
        have HG2 := Lib.hid hg2
        clear hco hlen hcomp hcap hown2 hg2
        go_wp2_with fail
        refine hco'.out.mono ?_
        rintro e w3 ⟨rfl, q, hw3⟩
        have hl := Ids.ofL_len acc
        have hlen := hlen'.out
        have hl3 : (Ids.ofL acc ++ List.replicate (acc.length - (Ids.ofL acc).length) 0).length = ys.length := by simp; omega
        obtain ⟨hown3, hg3⟩ := Ids.putCut (q := q) HO2.out hl3 #[]
        rw [grow_empty, ← hw3] at hown3 hg3
        clear hw3 hco'
        have hown4 := Ids.own_take hown3 (Ids.ofL acc).length (by omega)
        have e4 : (Ids.nums (Ids.ofL acc ++ List.replicate (acc.length - (Ids.ofL acc).length) 0)).take (Ids.ofL acc).length = Ids.nums (Ids.ofL acc) := by
          unfold Ids.nums; rw [← List.map_take, List.take_left']; rfl
        rw [e4] at hown4
        have hbel : BK w w3 := (KB.out.bl.grown HG2.out KB.out.bl.size (fun j hj => by cases hj; exact HG.out.1)).grown hg3 (Nat.le_trans KB.out.bl.size HG2.out.size) (fun j hj => by cases hj; exact HG.out.1)
        have H4 := Lib.hid (show LI w.heap.size w3 (.slice (some ⟨g, 0, none⟩) (Ids.ofL acc).length cap) (Ids.ofL acc) from hown4)
        clear hown4 hown3 hlen hl3 hl e4
        go_wp2_with fail
        go_ret
        exact ⟨⟨some ⟨g, 0, none⟩, cap, by rw [← AEH.out]; rfl, by rw [← AEH.out]; exact H4.out.row.bk (BK.refl _) (Nat.zero_le _)⟩, hbel⟩
    · have hlt : k < ss.length := by omega
      have hd : decide (k < ss.length) = true := by simpa using hlt
      have hki : (k : Int) < (ss.length : Int) := by omega
      have ei : IntKind.i64.wrap ((k : Int) + 1) = (k : Int) + 1 := by have := HL.out; exact IntWalk.i64_in _ (by omega)
      have HLT := Lib.hid hlt
      have RT := rlL_take hlt
      rw [← AC.out] at RT
      have AL := Lib.hid (show acc.length ≤ k from by rw [AC.out]; exact Nat.le_trans (rlL_len _) (by rw [List.length_take]; omega))
      obtain ⟨b, o, q, rfl, -, hc, hps⟩ := (HP.out.bk KB.out (Nat.le_refl _)).get hlt
      obtain ⟨z0, z1, z2, z3, z4, z5, z6, z7, z8, z9, z10, z11, z12, z13⟩ := hc.all
      have KX := Lib.hid (bk_alloc (BK.refl wr) (.cells (cS ss[k] q) 44))
      have NX := Lib.hid (heap_alloc_new wr (.cells (cS ss[k] q) 44))
      have SX := Lib.hid (sz1 wr (.cells (cS ss[k] q) 44))
      rw [cS_eq] at KX NX SX
      generalize ss[k] = s at *
      obtain ⟨kd, rf, ru, sb, ⟨opa, wda, vla, nma, tsa⟩, ⟨opb, wdb, vlb, nmb, tsb⟩⟩ := s
      obtain ⟨p1, c1, p2, c2, p3, c3, p4', c4'⟩ := q
      simp only [S.k, S.rf, S.ru, S.sb, S.a, S.b, T.ts, T.op, T.wd, T.vl, T.nm] at *
      clear hps hc e
      go_upto_region 5 with (fail)
      have KN := Lib.hid (bk_tr KB.out KX.out)
      have LN := Lib.hid (LL.out.bk KX.out)
      generalize wr.alloc (.cells #[.int .i64 kd, .slice p1 rf.length c1, .int .i64 ru, .slice p2 sb.length c2, .int .i64 opa, .int .i64 wda, .int .u64 vla, .string nma, .slice p3 tsa.length c3, .int .i64 opb, .int .i64 wdb, .int .u64 vlb, .string nmb, .slice p4' tsb.length c4'] 44) = w7 at *
      clear z0 z1 z2 z3 z4 z5 z6 z7 z8 z9 z10 z11 z12 z13
      have x0 := cell_of_row w7 wr.heap.size 0 _ 44 (0, 0) NX.out
      have x2 := cell_of_row w7 wr.heap.size 2 _ 44 (0, 0) NX.out
      by_cases h5 : kd = 5
      · subst h5
        have R2 := Lib.hid (show acc ++ [ru] = rlL (ss.take (k + 1)) from by rw [RT]; simp)
        clear RT
        go_wp2_with (at_builtin; go_must (refine wpList_pushI rfl _ _ rfl w.heap.size _ acc rfl LN.out ru rfl ?hlo ?hsm ?_))
        case hlo => exact bk_size KN.out
        case hsm => have := AL.out; have := HL.out; have := HLT.out; omega
        intro g4 cap4 w5 hl5 hs5
        have K5 := Lib.hid (Step.bk_new KN.out hs5 (fun j hj => (LL.out.lt _ hj).1))
        have L5 := Lib.hid (show LI w.heap.size w5 (.slice (some ⟨g4, 0, none⟩) (acc.length + 1) cap4) (acc ++ [ru]) from hl5)
        clear hl5 hs5
        go_wp2_with fail
        go_roundw
        case rel => exact ⟨k + 1, acc ++ [ru], by have := HLT.out; omega, by go_num, R2.out, L5.out, K5.out⟩
        case measure => have := HLT.out; simp [intOf]; omega
      · have h5' : (kd == 5) = false := by simp [h5]
        have R2 := Lib.hid (show acc = rlL (ss.take (k + 1)) from by rw [RT, if_neg h5, List.append_nil])
        clear RT
        go_wp2_with fail
        go_roundw
        case rel => exact ⟨k + 1, acc, by have := HLT.out; omega, by go_num, R2.out, LN.out, KN.out⟩
        case measure => have := HLT.out; simp [intOf]; omega
end Go.Proofs.YtnlpiaejfmdckaaDoor
