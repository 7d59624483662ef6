/- Where two ways up meet. -/
import Derived.Test.YtpnjmkmobdaefaaE
namespace Go.Proofs.Ytpnjmkmobdaefaa
open Go.RowKit Go.Maps
set_option linter.unusedVariables false
set_option linter.unusedSimpArgs false
/-- an entry of a map that is written out -/
theorem wpList_insert_own {H : Type} {P : Program} (w : World) {ops : Array Oper} {rest : List Oper} {o : Oper} {a : Act} {Q : Exit → Act → World → Prop}
    (hg : o.guard = none) (m x v : Operand) (t : TypeId) (hop : o.op = Op.insert t m x v)
    (k e : TypeId) (K : Keyed P k) (ht : P.underlying t = some (.map k e)) (R : Value → Option (DataW H × List MemPlace)) (b n : Nat) (D : DataW H)
    (hm : a.eval m = .map (some b)) (hown : w.ownsMap P k R b n D) (hn : n < maxLen) (key val : Value) (kl : Lit) (hx : a.eval x = key) (hv : a.eval v = val) (hkey : keyOf P k key = some kl)
    (d : DataW H) (ps : List MemPlace) (hval : R val = some (d, ps))
    (hK : ∀ w', w'.ownsMap P k R b (n + 1) (D.put kl d) → w.mapTurned w' b → wpList P ops Q rest (a.put o.dst undef) w') :
    wpList P ops Q (o :: rest) a w := by
  refine wpList_plain hg fun K' hK' => ?_
  obtain ⟨w', hrun, r1, r2⟩ := hown.store K ht hn hkey hval
  unfold Oper.wp
  simp [execOp, hop, hm, hx, hv, hrun, Result.andThen]
  exact hK' _ _ (hK w' r1 r2)
theorem zero4 (w : World) : (zeroValue 4).run Try.prog w = .ok (.bool false) w := by kernel_rfl
theorem plain_bool_inv {v : Value} {z : DataW Unit × List MemPlace} (h : plainElem Try.prog 4 v = some z) : ∃ b, v = .bool b ∧ z.1 = .lit (.bool b) := by
  unfold plainElem at h
  rw [Try.underlying4] at h
  cases v <;> simp at h
  exact ⟨_, rfl, by rw [← h]⟩
/-- the ids that were passed -/
def PD (D : DataW Unit) (ps : List Int) : Prop := IsMap D ∧ ∀ x, D.atKey (.int .i64 x) (.lit (.bool false)) = .lit (.bool (decide (x ∈ ps)))
theorem PD.empty : PD (.map []) [] := ⟨isMap_empty, fun x => by simp; rfl⟩
theorem PD.put {D : DataW Unit} {ps : List Int} (h : PD D ps) (x : Int) : PD (D.put (.int .i64 x) (.lit (.bool true))) (x :: ps) := by
  refine ⟨h.1.put _ _, fun y => ?_⟩
  by_cases e : y = x
  · subst e
    rw [atKey_put_same h.1 (isKey y)]
    simp
  · rw [atKey_put_other (by simpa using e), h.2 y]
    simp [e]
def PM (w : World) (b n : Nat) (ps : List Int) : Prop := ∃ D : DataW Unit, w.ownsMap Try.prog 3 (plainElem Try.prog 4) b n D ∧ PD D ps
theorem PM.look {w : World} {b n : Nat} {ps : List Int} (h : PM w b n ps) {x : Int} (hx : okI x) : (Instr.lookup 63 (.map (some b)) (.int .i64 x) false).run Try.prog w = .ok (.bool (decide (x ∈ ps))) w := by
  obtain ⟨D, h1, h2⟩ := h
  obtain ⟨v, q, hrun, hv⟩ := h1.lookup (t := 63) keyLaw Try.underlying63 (zero4 w) (plainElem_bool Try.underlying4 false) (keyOf_int_mk Try.underlying3 (ok_wf hx))
  obtain ⟨b, rfl, hb⟩ := plain_bool_inv hv
  rw [hrun]
  have := h2.2 x
  simp only [this] at hb
  simp at hb
  rw [← hb]
theorem PM.lt {w : World} {b n : Nat} {ps : List Int} (h : PM w b n ps) : b < w.heap.size := by obtain ⟨D, h1, _⟩ := h; exact h1.lt
theorem PM.at {w w' : World} {b n : Nat} {ps : List Int} (h : PM w b n ps) (hb : w'.heap[b]? = w.heap[b]?) : PM w' b n ps := by
  obtain ⟨D, ⟨es, cl, h1, h2⟩, h3⟩ := h
  exact ⟨D, ⟨es, cl, hb.trans h1, h2⟩, h3⟩
theorem PM.keep {w w' : World} {b n : Nat} {ps : List Int} (h : PM w b n ps) (hb : BK w w') : PM w' b n ps := h.at (hb.bl.block b h.lt)
theorem bk_turned {w0 w w' : World} {b : Nat} (h : BK w0 w) (ht : w.mapTurned w' b) (hb : w0.heap.size ≤ b) : BK w0 w' :=
  h.bl.grown ht.grown h.bl.size (fun r hr => by cases hr; exact hb)
theorem oth_ok {w : World} {B : Nat} {o : FO} {M : List L3} {N : Nat} (h : FB w B o M N) {k : Nat} {l : L3} (hl : M[k]? = some l) (x : Int) : okI (oth l x) := by
  have := h.ok l (List.mem_of_getElem? hl)
  unfold oth; split
  · exact this.2.1
  · exact this.1
def MT (w : World) (o : FO) (M : List L3) (a b : Int) (e : Ending) (w' : World) : Prop := BK w w' ∧ ∃ top s t, e = .returned (.int .i64 top) ∧ okI top ∧ UT M o.up a s ∧ UT M o.up b t ∧ en a s = top ∧ en b t = top ∧ ∀ x ∈ vs a s, x ∉ vs b t
def ML (w wr : World) (o : FO) (M : List L3) (a b id other : Int) : Prop := ∃ ps, okI id ∧ okI other ∧ MI M o.up a b id other ps ∧ PM wr w.heap.size ps.length ps ∧ BK w wr
set_option maxRecDepth 100000 in
set_option maxHeartbeats 1000000 in
theorem meeting32 (w : World) (B : Nat) (o : FO) (M : List L3) (N : Nat) (h : FB w B o M N) (hwf : WFR M.reverse) (u : UPI M o.up) (a b : Int) (ha : okI a) (hb : okI b) (hab : CR M.reverse a b) (hk : M.length ≤ 1000) : Calls Try.prog 32 #[.pointer (some ⟨o.f, 0, none⟩), .int .i64 a, .int .i64 b] w (MT w o M a b) := by
  obtain ⟨ρ, hr⟩ := u.acc
  have hmm := @run_makeMap Try.prog
  have hm0 : ((w.alloc (.map #[] 0))).ownsMap Try.prog 3 (plainElem (H := Unit) Try.prog 4) w.heap.size 0 (.map []) := World.ownsMap_made w _ _ _
  have hkey := keyOf_int_mk Try.underlying3 (ok_wf ha)
  have k0 := bk_alloc (BK.refl w) (.map #[] 0)
  have HF := Lib.hid h
  have HR := Lib.hid hr
  have HU := Lib.hid u
  have HW := Lib.hid hwf
  have HA := Lib.hid ha
  have HB := Lib.hid hb
  have HC := Lib.hid hab
  have K0 := Lib.hid k0
  clear h hr u hwf ha hb hab k0
  go_enter Try.func32, Try.ntmps32
  go_wp2_with (refine wpList_insert_own _ rfl _ _ _ 63 rfl 3 4 keyLaw Try.underlying63 _ w.heap.size 0 (.map []) rfl hm0 (by unfold maxLen; omega) _ _ (.int .i64 a) rfl rfl hkey (.lit (.bool true)) [] (plainElem_bool Try.underlying4 true) ?_)
  intro w1 hD1 ht1
  have S1 := Lib.hid (show ML w w1 o M a b b a from ⟨[a], HB.out, HA.out, MI.start M o.up a b, ⟨_, hD1, PD.empty.put a⟩, bk_turned K0.out ht1 (Nat.le_refl _)⟩)
  clear hm0 hD1 ht1 hmm
  go_wp2_with fail
  go_loopw [8, 9] (fun x y wr => ∃ id other, x = .int .i64 id ∧ y = .int .i64 other ∧ ML w wr o M a b id other) (fun x y _ => ρ (intOf x) + ρ (intOf y))
  case atStart => exact ⟨b, a, rfl, rfl, S1.out⟩
  case round =>
    obtain ⟨id, other, rfl, rfl, ps, hid, hot, hmi, hpm, hbk⟩ := hrel
    have hlk := hpm.look hid
    have MIH := Lib.hid hmi
    have BB := Lib.hid hbk
    have OI := Lib.hid hid
    have OO := Lib.hid hot
    have PP := Lib.hid hpm
    clear hmi hbk hid hot hpm
    by_cases hin : id ∈ ps
    · rw [decide_eq_true hin] at hlk
      obtain ⟨s, t, q1, q2, q3, q4, q5⟩ := MIH.out.hit HU.out hin
      have QQ := Lib.hid (show MT w o M a b (.returned (.int .i64 id)) wr from ⟨BB.out, id, s, t, rfl, OI.out, q1, q2, q3, q4, q5⟩)
      clear hin q1 q2 q3 q4 q5
      go_wp2_with fail
      go_ret
      exact QQ.out
    · rw [decide_eq_false hin] at hlk
      have NI := Lib.hid hin
      clear hin
      have hlen : ps.length < 3000 := by
        obtain ⟨n, m, e1, s, t, e2, e3, e4, e5, e6, e7⟩ := MIH.out.len HU.out
        have := pigeon _ s e4 e6
        have := pigeon _ t e5 e7
        omega
      obtain ⟨D, hD, hPD⟩ := PP.out
      have HPD := Lib.hid hPD
      have hkey2 := keyOf_int_mk Try.underlying3 (ok_wf OI.out)
      clear hPD
      go_wp2_with (at_mapUpdate; refine wpList_mapUpdate_in _ rfl _ _ _ 63 rfl 3 4 keyLaw Try.underlying63 _ w.heap.size ps.length D rfl hD (by unfold maxLen; omega) _ _ (.int .i64 id) rfl rfl hkey2 (.lit (.bool true)) [] (plainElem_bool Try.underlying4 true) ?_)
      intro w2 hD2 ht2
      have P2 := Lib.hid (show PM w2 w.heap.size (id :: ps).length (id :: ps) from ⟨_, hD2, HPD.out.put id⟩)
      have B2 := Lib.hid (bk_turned BB.out ht2 (Nat.le_refl _))
      have F2 := Lib.hid (HF.out.bk B2.out)
      clear hlk hD hD2 ht2 hlen
      have hl2 := F2.out.mup.look OO.out
      rw [upI_getD, upI_isSome] at hl2
      have c2 := F2.out.k2
      cases hup : o.up other with
      | some k =>
        rw [hup] at hl2
        obtain ⟨l, hl, _⟩ := HU.out.ends other k hup
        have M2 := Lib.hid (MIH.out.swap NI.out hup hl)
        have LT := Lib.hid (HR.out other k l hup hl)
        have V2 := Lib.hid (oth_ok F2.out hl other)
        have E36 := Lib.hid (end36 w2 B o M N F2.out k l hl (by omega) other)
        simp only [Option.isSome_some, hI_some] at hl2
        clear hup hl
        generalize oth l other = v at M2 LT V2 E36
        go_wp2_with fail
        refine E36.out.mono ?_
        rintro e w' ⟨rfl, rfl⟩
        go_wp2_with fail
        go_roundw
        case rel => exact ⟨v, id, rfl, rfl, id :: ps, V2.out, OI.out, M2.out, P2.out, B2.out⟩
        case measure => have := LT.out; simp [intOf]; omega
      | none =>
        rw [hup] at hl2
        have hne := MIH.out.going HW.out HU.out HC.out NI.out hup
        obtain ⟨k, hk2⟩ : ∃ k, o.up id = some k := by
          cases e : o.up id with
          | none => exact absurd e hne
          | some k => exact ⟨k, rfl⟩
        obtain ⟨l, hl, _⟩ := HU.out.ends id k hk2
        have M2 := Lib.hid (MIH.out.climb NI.out hk2 hl)
        have LT := Lib.hid (HR.out id k l hk2 hl)
        have V2 := Lib.hid (oth_ok F2.out hl id)
        have P33 := Lib.hid (parent33 w2 B o M N F2.out id OI.out k l hk2 hl (by omega))
        simp only [Option.isSome_none, hI_none] at hl2
        clear hup hl hk2 hne
        generalize oth l id = v at M2 LT V2 P33
        go_wp2_with fail
        refine P33.out.mono ?_
        rintro e w3 ⟨rfl, hb3⟩
        have B3 := Lib.hid (bk_tr B2.out hb3)
        have P3 := Lib.hid (P2.out.keep hb3)
        clear hb3
        go_wp2_with fail
        go_roundw
        case rel => exact ⟨v, other, rfl, rfl, id :: ps, V2.out, OO.out, M2.out, P3.out, B3.out⟩
        case measure => have := LT.out; simp [intOf]; omega
end Go.Proofs.Ytpnjmkmobdaefaa
