/- The reference's Run. -/
import Derived.Test.YtjmmaaphadeokaaZD
import Derived.Test.YtjmmaaphadeokaaUB
import Derived.Laws.ResultCell
namespace Go.Proofs.Ytjmmaaphadeokaa
open Go.RowKit
set_option linter.unusedVariables false
set_option linter.unusedSimpArgs false
def z8 : List Int := [0, 0, 0, 0, 0, 0, 0, 0]
theorem zeros45 : ua z8 = #[.int .u64 0, .int .u64 0, .int .u64 0, .int .u64 0, .int .u64 0, .int .u64 0, .int .u64 0, .int .u64 0] := rfl
def cutS (W : Int) (s : List Int) : List Int := s.map (cutV W)
def cutN (W : Int) (s : List Int) (k : Nat) : List Int := (s.take k).map (cutV W) ++ s.drop k
theorem cutN_len (W : Int) (s : List Int) (k : Nat) : (cutN W s k).length = s.length := by simp [cutN]; omega
theorem cutN_zero (W : Int) (s : List Int) : cutN W s 0 = s := by simp [cutN]
theorem cutN_all (W : Int) (s : List Int) : cutN W s s.length = cutS W s := by simp [cutN, cutS]
theorem cutN_get (W : Int) (s : List Int) (k : Nat) (h : k < s.length) : (cutN W s k)[k]'(by rw [cutN_len]; exact h) = s[k] := by
  simp only [cutN]
  rw [List.getElem_append_right (by simp; omega)]
  simp [Nat.min_eq_left (Nat.le_of_lt h)]
theorem cutN_succ (W : Int) (s : List Int) (k : Nat) (h : k < s.length) : (cutN W s k).set k (cutV W s[k]) = cutN W s (k + 1) := by
  have e : (List.map (cutV W) (s.take k)).length = k := by simp; omega
  unfold cutN
  rw [List.set_append, if_neg (by omega), e, Nat.sub_self, List.drop_eq_getElem_cons h, List.set_cons_zero, List.take_succ_eq_append_getElem h, List.map_append]
  simp
/-- what stands in Run's loops: the program, the result, the registers -/
structure RN (w w0 : World) (W : Int) (x1 x2 x3 : Value) (s : List Int) : Prop where
  c : B4 w0 w.heap.size (.int .i64 W) x1 x2 x3
  r : SU w0 (w.heap.size + 2) z8
  l : SU w0 (w.heap.size + 3) s
  k : BK w w0
theorem RN.keep {w w0 w1 : World} {W : Int} {x1 x2 x3 : Value} {s : List Int} (h : RN w w0 W x1 x2 x3 s) (hb : BK w0 w1) : RN w w1 W x1 x2 x3 s := ⟨h.c.keep hb, h.r.keep hb, h.l.keep hb, bk_tr h.k hb⟩
theorem RN.set {w w0 : World} {W : Int} {x1 x2 x3 : Value} {s : List Int} (h : RN w w0 W x1 x2 x3 s) (j : Nat) (x : Int) : RN w (w0.setCell ⟨w.heap.size + 3, j, none⟩ (.int .u64 x)) W x1 x2 x3 (s.set j x) :=
  ⟨h.c.other _ _ (by show w.heap.size ≠ w.heap.size + 3; omega), h.r.other _ _ (by show w.heap.size + 2 ≠ w.heap.size + 3; omega), h.l.set j x, bk_set h.k _ _ (by show w.heap.size ≤ w.heap.size + 3; omega)⟩
theorem runM_take {f : Int → Int → Int → Int} {ins : List I6} {k : Nat} (h : k < ins.length) {s0 sk : List Int} (hr : runM f (ins.take k) s0 = some sk) : runM f (ins.take (k + 1)) s0 = stepM f ins[k] sk := by
  rw [List.take_succ_eq_append_getElem h, runM_app, hr, Option.bind_some, runM_cons]
  cases stepM f ins[k] sk <;> rfl
theorem runM_stop {f : Int → Int → Int → Int} {ins : List I6} {k : Nat} (h : k < ins.length) {s0 sk : List Int} (hr : runM f (ins.take k) s0 = some sk) (hn : stepM f ins[k] sk = none) : runM f ins s0 = none := by
  conv => lhs; rw [← List.take_append_drop k ins]
  rw [runM_app, hr, Option.bind_some, List.drop_eq_getElem_cons h, runM_cons, hn]; rfl
theorem results_cell_row_tmp {P : Program} {fn : Func} {p u : Tmp} {ty : TypeId} (h : fn.results = #[.cell p ty, .tmp u]) (tmps : Array Value) (w : World) (g : Nat) (t : TypeId) (cs : Array Value) (fr : Nat × Nat) (d : TypeDesc)
    (hp : tmps.getD p undef = .pointer (some ⟨g, 0, none⟩)) (hg : w.heap[g]? = some (.cells cs t fr))
    (hu : P.underlying ty = some d) (hd : (match d with | .struct _ | .array _ _ => true | _ => false) = true) (hi : (P.info? ty).map (·.size) = some cs.size) :
    (results fn tmps).run P w = .ok (.tuple #[.agg cs, tmps.getD u undef]) w := by
  rw [results_cell_tmp h, hp]
  simp [asAddr, Result.andThen, run_loadVar_row w g t ty cs fr d hg hu hd hi]

/-! one step, by its operation -/
section
variable {f : Int → Int → Int → Int} {s : List Int}
theorem gR_nat (r : Nat) (h : r < s.length) : gR s r = s[r] := by simp [gR, List.getD_eq_getElem?_getD, h]
theorem st_nop (dst a b c imm : Int) : stepM f ⟨0, dst, a, b, c, imm⟩ s = some s := by unfold stepM; rw [if_pos rfl]
theorem st_movi (d : Nat) (a b c imm : Int) : stepM f ⟨1, d, a, b, c, imm⟩ s = some (s.set d imm) := by
  unfold stepM; rw [if_neg (by show ¬ (1 : Int) = 0; decide), if_pos rfl]; simp [sR]
theorem st_trap (op dst a c imm : Int) (b : Nat) (h : op = 11 ∨ op = 12) (hb : b < s.length) (hz : s[b] = 0) : stepM f ⟨op, dst, a, b, c, imm⟩ s = none := by
  unfold stepM; rw [if_neg (by show ¬ op = 0; omega), if_neg (by show ¬ op = 1; omega), if_pos ⟨h, by show gR s b = 0; rw [gR_nat b hb, hz]⟩]
theorem st_sel1 (d a b : Nat) (c imm : Int) (ha : a < s.length) (hb : b < s.length) (hz : ¬ s[a] = 0) : stepM f ⟨19, d, a, b, c, imm⟩ s = some (s.set d s[b]) := by
  unfold stepM; rw [if_neg (by show ¬ (19 : Int) = 0; decide), if_neg (by show ¬ (19 : Int) = 1; decide), if_neg (by show ¬ (((19 : Int) = 11 ∨ (19 : Int) = 12) ∧ _); omega), if_pos rfl, if_neg (by show ¬ gR s a = 0; rw [gR_nat a ha]; exact hz)]
  show some (sR s d (gR s b)) = _
  rw [gR_nat b hb]; simp [sR]
theorem st_sel0 (d a c : Nat) (b imm : Int) (ha : a < s.length) (hc : c < s.length) (hz : s[a] = 0) : stepM f ⟨19, d, a, b, c, imm⟩ s = some (s.set d s[c]) := by
  unfold stepM; rw [if_neg (by show ¬ (19 : Int) = 0; decide), if_neg (by show ¬ (19 : Int) = 1; decide), if_neg (by show ¬ (((19 : Int) = 11 ∨ (19 : Int) = 12) ∧ _); omega), if_pos rfl, if_pos (by show gR s a = 0; rw [gR_nat a ha]; exact hz)]
  show some (sR s d (gR s c)) = _
  rw [gR_nat c hc]; simp [sR]
theorem st_val (op : Int) (d a b : Nat) (c imm : Int) (h2 : 2 ≤ op) (h3 : op ≤ 18) (ha : a < s.length) (hb : b < s.length) (hn : ¬ ((op = 11 ∨ op = 12) ∧ s[b] = 0)) : stepM f ⟨op, d, a, b, c, imm⟩ s = some (s.set d (f op s[a] s[b])) := by
  unfold stepM; rw [if_neg (by show ¬ op = 0; omega), if_neg (by show ¬ op = 1; omega), if_neg (by show ¬ ((op = 11 ∨ op = 12) ∧ gR s b = 0); rw [gR_nat b hb]; exact hn), if_neg (by show ¬ op = 19; omega)]
  show some (sR s d (f op (gR s a) (gR s b))) = _
  rw [gR_nat a ha, gR_nat b hb]; simp [sR]
theorem st_valz (op : Int) (d a b : Nat) (c imm za zb : Int) (h2 : 2 ≤ op) (h3 : op ≤ 18) (ha : a < s.length) (hb : b < s.length) (hza : za = s[a]) (hzb : zb = s[b]) (hn : ¬ ((op = 11 ∨ op = 12) ∧ zb = 0)) : stepM f ⟨op, d, a, b, c, imm⟩ s = some (s.set d (f op za zb)) := by
  subst hza hzb
  exact st_val op d a b c imm h2 h3 ha hb hn
end
/-- the registers that Run looks at -/
structure Rg (i : I6) : Prop where
  d : 1 ≤ i.op → 0 ≤ i.dst ∧ i.dst < 8
  a : 2 ≤ i.op → 0 ≤ i.a ∧ i.a < 8
  b : 2 ≤ i.op → 0 ≤ i.b ∧ i.b < 8
  c : i.op = 19 → 0 ≤ i.c ∧ i.c < 8
  o0 : 0 ≤ i.op
  o1 : i.op ≤ 19
def RunP (W : Int) (ins : List I6) (s : List Int) (w : World) (e : Ending) (w' : World) : Prop :=
  BK w w' ∧ ((∃ s', s'.length = 8 ∧ runM (valV W) ins (cutS W s) = some s' ∧ e = .returned (.tuple #[.agg (ua s'), .bool true])) ∨ (runM (valV W) ins (cutS W s) = none ∧ ∃ s', s'.length = 8 ∧ e = .returned (.tuple #[.agg (ua s'), .bool false])))
set_option maxRecDepth 100000 in
set_option maxHeartbeats 40000000 in
theorem run29 (W R : Int) (p q : Option Addr) (pc qc m : Nat) (ins : List I6) (s : List Int) (w : World) (hi : RI w p pc ins) (li : ins.length ≤ 300) (hs : s.length = 8) (h1 : 1 ≤ W) (h2 : W ≤ 64) (hv : ∀ i ∈ ins, Rg i) :
    Calls Try.prog 29 #[.agg #[.int .i64 W, .int .i64 R, .slice p ins.length pc, .slice q m qc], .agg (ua s)] w (RunP W ins s w) := by
  have a1 := ((SU.new (w.alloc (.cells #[.int .i64 W, .int .i64 R, .slice p ins.length pc, .slice q m qc] 25)) s).old (.cells (ua z8) 45))
  rw [sz1] at a1
  have a2 := SU.new ((w.alloc (.cells #[.int .i64 W, .int .i64 R, .slice p ins.length pc, .slice q m qc] 25)).alloc (.cells (ua s) 45)) z8
  rw [sz1, sz1] at a2
  have b4 := (b4_new w (.int .i64 W) (.int .i64 R) (.slice p ins.length pc) (.slice q m qc) 25).keep (bk_alloc (bk_alloc (BK.refl _) (.cells (ua s) 45)) (.cells (ua z8) 45))
  have k0 := bk_alloc (bk_alloc (bk_alloc (BK.refl w) (.cells #[.int .i64 W, .int .i64 R, .slice p ins.length pc, .slice q m qc] 25)) (.cells (ua s) 45)) (.cells (ua z8) 45)
  have sz : (((w.alloc (.cells #[.int .i64 W, .int .i64 R, .slice p ins.length pc, .slice q m qc] 25)).alloc (.cells (ua s) 45)).alloc (.cells (ua z8) 45)).heap.size = w.heap.size + 3 := by simp
  have hlen : (ua s).size = 8 := by rw [ua_size, hs]
  have hle := hi.le
  have HI := Lib.hid hi
  have HV := Lib.hid hv
  clear hi hv
  go_enter Try.func29, Try.ntmps29
  go_upto_region 1 with (fail)
  rw [← zeros45]
  generalize ((w.alloc (.cells #[.int .i64 W, .int .i64 R, .slice p ins.length pc, .slice q m qc] 25)).alloc (.cells (ua s) 45)).alloc (.cells (ua z8) 45) = w1 at a1 a2 b4 k0 sz ⊢
  have A1 := Lib.hid a1
  have A2 := Lib.hid a2
  have BB := Lib.hid b4
  have HS := Lib.hid hs
  have HL := Lib.hid hlen
  have SZ := Lib.hid sz
  clear hs hlen sz b4
  refine wp_region_lit ?_
  refine wpList_load_row rfl 45 _ rfl (w.heap.size + 1) rfl 45 (ua s) (0, 0) _ A1.out Try.underlying45 rfl (by rw [HL.out]; kernel_rfl) ?_
  go_upto_region 2 with (refine wpList_store_row rfl 45 _ _ rfl w1.heap.size (ua s) rfl rfl 45 _ (heap_alloc_last _ _) (by rw [HL.out]; kernel_rfl) (by rw [HL.out]; rfl) (ua_one _) ?_; rw [World.setRow_alloc_new])
  have bx : RN w (w1.alloc (.cells (ua s) 45)) W (.int .i64 R) (.slice p ins.length pc) (.slice q m qc) s := ⟨BB.out.keep (bk_alloc (BK.refl _) _), a2.old _, by have := SU.new w1 s; rw [SZ.out] at this; exact this, bk_alloc k0 _⟩
  rw [SZ.out]
  generalize w1.alloc (.cells (ua s) 45) = w2 at bx ⊢
  have BX := Lib.hid bx
  clear bx a1 a2 k0 A1 A2 BB SZ HL
  go_wp2_with fail
  go_loopw [7] (fun i wr => ∃ k : Nat, k ≤ 8 ∧ i = .int .i64 k ∧ RN w wr W (.int .i64 R) (.slice p ins.length pc) (.slice q m qc) (cutN W s k)) (fun i _ => 8 - (intOf i).toNat)
  case atStart => exact ⟨0, Nat.zero_le _, rfl, by rw [cutN_zero]; exact BX.out⟩
  case round =>
    obtain ⟨k, hk, rfl, hr⟩ := hrel
    have RR := Lib.hid hr
    obtain ⟨c0, c1, c2, c3⟩ := hr.c
    clear BX
    by_cases hlt : k < 8
    · have hk8 : k < s.length := by have := HS.out; omega
      have e1 := hr.l.cell k (by rw [cutN_len]; exact hk8)
      rw [cutN_get W s k hk8] at e1
      have f1 := hr.l.frozen k
      have HN := Lib.hid (RR.out.set k (cutV W s[k]))
      rw [cutN_succ W s k hk8] at HN
      have hi0 : (0 : Int) ≤ k := by omega
      have hi1 : (k : Int) < 8 := by omega
      clear hr
      generalize s[k] = z at e1 HN
      go_upto_region 5 with (fail)
      go_region_with (go_at_call 51; refine (cut51 _ _ h1 h2 _).mono ?_; rintro e w' ⟨rfl, rfl⟩)
      all_goals (clear e1 f1 c0 c1 c2 c3; go_wp2_with fail; go_roundw)
      case rel => exact ⟨k + 1, by omega, by go_num, HN.out.keep (bk_drew (BK.refl _))⟩
      case measure => simp [intOf]; omega
      case rel => exact ⟨k + 1, by omega, by go_num, HN.out.keep (bk_drew (BK.refl _))⟩
      case measure => simp [intOf]; omega
    · obtain rfl : k = 8 := by omega
      have RR2 := RR.out
      rw [show cutN W s 8 = cutS W s from by have := cutN_all W s; rw [HS.out] at this; exact this] at RR2
      have BX := Lib.hid RR2
      clear hr RR RR2 c0 c1 c2 c3
      go_wp2_with fail
      go_loopw [8] (fun i wr => ∃ (k : Nat) (sk : List Int), k ≤ ins.length ∧ i = .int .i64 k ∧ sk.length = 8 ∧ runM (valV W) (ins.take k) (cutS W s) = some sk ∧ RN w wr W (.int .i64 R) (.slice p ins.length pc) (.slice q m qc) sk) (fun i _ => ins.length - (intOf i).toNat)
      case atStart => exact ⟨0, _, Nat.zero_le _, rfl, by rw [cutS, List.length_map]; exact HS.out, rfl, BX.out⟩
      case round =>
        rename_i wr0 _
        clear BX
        obtain ⟨k, sk, hk, rfl, hsk, hrun, hr⟩ := hrel
        have RR := Lib.hid hr
        obtain ⟨c0, c1, c2, c3⟩ := hr.c
        have HSK := Lib.hid hsk
        by_cases hlt : k < ins.length
        · obtain ⟨b₀, o, rfl, a6⟩ := (HI.out.keep hr.k).get k hlt
          have hvj := HV.out ins[k] (List.getElem_mem hlt)
          have HT := Lib.hid (runM_take (f := valV W) hlt hrun)
          have HNo := Lib.hid (runM_stop (f := valV W) hlt hrun)
          clear hr hrun hsk
          generalize ins[k] = j at a6 hvj HT HNo
          obtain ⟨op, d', a', b', c', imm⟩ := j
          obtain ⟨hd, ha, hb, hc, o0, o1⟩ := hvj
          dsimp only [A6] at a6 hd ha hb hc o0 o1
          obtain ⟨y0, y1, y2, y3, y4, y5⟩ := a6
          go_upto_region 11 with (fail)
          have x6 := x6_new wr ⟨op, d', a', b', c', imm⟩ 54
          have XO := Lib.hid (show w.heap.size + 3 < wr.heap.size from RR.out.l.lt)
          have rr := RR.out.keep (bk_alloc (BK.refl wr) (.cells #[.int .i64 op, .int .i64 d', .int .i64 a', .int .i64 b', .int .i64 c', .int .u64 imm] 54))
          clear c0 c1 c2 c3 y0 y1 y2 y3 y4 y5 RR
          generalize wr.alloc (.cells #[.int .i64 op, .int .i64 d', .int .i64 a', .int .i64 b', .int .i64 c', .int .u64 imm] 54) = wa at x6 rr ⊢
          generalize wr.heap.size = X at x6 XO ⊢
          have y6 := x6
          dsimp only [X6] at x6
          have RR := Lib.hid rr
          have RL := Lib.hid rr.l
          have RS := Lib.hid rr.r
          obtain ⟨c0, c1, c2, c3⟩ := rr.c
          obtain ⟨y0, y1, y2, y3, y4, y5⟩ := x6
          clear rr
          by_cases h : op = 0
          · subst h
            go_wp2_with fail
            go_roundw
            case rel => exact ⟨k + 1, _, by omega, by go_num, HSK.out, by rw [HT.out]; exact st_nop _ _ _ _ _, RR.out⟩
            case measure => simp [intOf]; omega
          have n0 := h
          clear h
          by_cases h : op = 1
          · subst h
            have := hd (by omega)
            clear hd ha hb hc
            obtain ⟨d, rfl⟩ : ∃ x : Nat, d' = x := ⟨d'.toNat, by omega⟩
            have d8 : d < 8 := by omega
            have d0 : (0 : Int) ≤ d := by omega
            have d1 : (d : Int) < 8 := by omega
            have dk : d < sk.length := by have := HSK.out; omega
            have ed := RL.out.cell d dk
            have fd := RL.out.frozen d
            have HN := Lib.hid (RR.out.set d imm)
            have HST := Lib.hid (st_movi (f := valV W) (s := sk) d a' b' c' imm)
            generalize sk[d] = zd at ed
            go_wp2_with fail
            go_roundw
            case rel => exact ⟨k + 1, _, by omega, by go_num, (by rw [List.length_set]; exact HSK.out), by rw [HT.out]; exact HST.out, HN.out⟩
            case measure => simp [intOf]; omega
          have n1 := h
          clear h
          by_cases h : op = 11
          · subst h
            have := hd (by omega)
            have := ha (by omega)
            have := hb (by omega)
            clear hd ha hb hc
            obtain ⟨d, rfl⟩ : ∃ x : Nat, d' = x := ⟨d'.toNat, by omega⟩
            have d8 : d < 8 := by omega
            have d0 : (0 : Int) ≤ d := by omega
            have d1 : (d : Int) < 8 := by omega
            have dk : d < sk.length := by have := HSK.out; omega
            have ed := RL.out.cell d dk
            have fd := RL.out.frozen d
            obtain ⟨a, rfl⟩ : ∃ x : Nat, a' = x := ⟨a'.toNat, by omega⟩
            have a8 : a < 8 := by omega
            have a0 : (0 : Int) ≤ a := by omega
            have a1 : (a : Int) < 8 := by omega
            have ak : a < sk.length := by have := HSK.out; omega
            have ea := RL.out.cell a ak
            have fa := RL.out.frozen a
            obtain ⟨b, rfl⟩ : ∃ x : Nat, b' = x := ⟨b'.toNat, by omega⟩
            have b8 : b < 8 := by omega
            have b0 : (0 : Int) ≤ b := by omega
            have b1 : (b : Int) < 8 := by omega
            have bk : b < sk.length := by have := HSK.out; omega
            have eb := RL.out.cell b bk
            have fb := RL.out.frozen b
            by_cases hz : sk[b] = 0
            · have HST := Lib.hid (st_trap (f := valV W) (s := sk) 11 d a c' imm b (by omega) bk hz)
              rw [hz] at eb
              clear hz
              go_upto_region 15 with (fail)
              have HR2 := Lib.hid (RS.out.row (s' := sk))
              have KR := Lib.hid RR.out.k
              refine wp_region_lit ?_
              refine wpList_load_row rfl 45 _ rfl (w.heap.size + 3) rfl 45 (ua sk) (0, 0) _ RL.out Try.underlying45 rfl (by rw [ua_size, HSK.out]; kernel_rfl) ?_
              refine wpList_store_row rfl 45 _ _ rfl (w.heap.size + 2) (ua sk) rfl rfl 45 (ua z8) RS.out (by rw [ua_size, HSK.out]; kernel_rfl) (by rw [ua_size, ua_size, HSK.out]; rfl) (ua_one _) ?_
              go_wp2_with fail
              exact bodyPost_ret (results_cell_row_tmp Try.results29 _ _ (w.heap.size + 2) 45 (ua sk) (0, 0) _ rfl HR2.out Try.underlying45 rfl (by rw [ua_size, HSK.out]; kernel_rfl)) rfl ⟨below_setRow (show Below w.heap.size w wa from KR.out) (by omega) _, .inr ⟨HNo.out (HST.out), sk, HSK.out, rfl⟩⟩
            · obtain ⟨za, hza⟩ : ∃ x : Int, x = sk[a] := ⟨_, rfl⟩
              obtain ⟨zb, hzb⟩ : ∃ x : Int, x = sk[b] := ⟨_, rfl⟩
              rw [← hzb] at hz eb
              have HST := Lib.hid (st_valz (f := valV W) (s := sk) 11 d a b c' imm za zb (by omega) (by omega) ak bk hza hzb (fun h => hz h.2))
              have HZA := Lib.hid hza
              have HZB := Lib.hid hzb
              clear hza hzb ea ed fa fb fd
              go_upto_region 10 with (fail)
              clear eb hz c0 c1 c2 c3 y0 y1 y2 y3 y4 y5
              refine wp_region_held_drew (S := fun w' => X6 w' X ⟨11, d, a, b, c', imm⟩ ∧ B4 w' w.heap.size (.int .i64 W) (.int .i64 R) (.slice (some ⟨b₀, o, none⟩) ins.length pc) (.slice q m qc)) (by kernel_rfl) (⟨y6.keep (bk_drew (BK.refl _)), RR.out.c.keep (bk_drew (BK.refl _))⟩) (fun hHeld => ?_)
              have hkI := bk_drew (BK.refl wa)
              generalize wa.drew = wI at hHeld hkI ⊢
              refine wpAnyH_take (i := 0) (v := .pointer (some ⟨X, 1, none⟩)) rfl (by kernel_rfl) (by kernel_rfl) (by kernel_rfl) (fun _ _ _ h => h) (Or.inl ⟨by kernel_rfl, fun w hSw => by (go_simp)⟩) hHeld ?_
              try simp only [Act.put, List.setIfInBounds_toArray, List.set_cons_zero, List.set_cons_succ]
              refine wpAnyH_take (i := 1) (v := .int .i64 (d : Int)) rfl (by kernel_rfl) (by kernel_rfl) (by kernel_rfl) (fun _ _ _ h => h) (Or.inl ⟨by kernel_rfl, fun w hSw => by (obtain ⟨q0, q1, q2, q3, q4, q5⟩ := hSw.1; go_simp)⟩) hHeld ?_
              try simp only [Act.put, List.setIfInBounds_toArray, List.set_cons_zero, List.set_cons_succ]
              refine wpAnyH_take (i := 2) (v := .pointer (some ⟨X, 0, none⟩)) rfl (by kernel_rfl) (by kernel_rfl) (by kernel_rfl) (fun _ _ _ h => h) (Or.inl ⟨by kernel_rfl, fun w hSw => by (go_simp)⟩) hHeld ?_
              try simp only [Act.put, List.setIfInBounds_toArray, List.set_cons_zero, List.set_cons_succ]
              refine wpAnyH_take (i := 3) (v := .int .i64 11) rfl (by kernel_rfl) (by kernel_rfl) (by kernel_rfl) (fun _ _ _ h => h) (Or.inl ⟨by kernel_rfl, fun w hSw => by (obtain ⟨q0, q1, q2, q3, q4, q5⟩ := hSw.1; go_simp)⟩) hHeld ?_
              try simp only [Act.put, List.setIfInBounds_toArray, List.set_cons_zero, List.set_cons_succ]
              refine wpAnyH_take (i := 4) (v := .pointer (some ⟨w.heap.size, 0, none⟩)) rfl (by kernel_rfl) (by kernel_rfl) (by kernel_rfl) (fun _ _ _ h => h) (Or.inl ⟨by kernel_rfl, fun w hSw => by (go_simp)⟩) hHeld ?_
              try simp only [Act.put, List.setIfInBounds_toArray, List.set_cons_zero, List.set_cons_succ]
              refine wpAnyH_take (i := 5) (v := .int .i64 W) rfl (by kernel_rfl) (by kernel_rfl) (by kernel_rfl) (fun _ _ _ h => h) (Or.inl ⟨by kernel_rfl, fun w hSw => by (obtain ⟨q0, q1, q2, q3⟩ := hSw.2; go_simp)⟩) hHeld ?_
              try simp only [Act.put, List.setIfInBounds_toArray, List.set_cons_zero, List.set_cons_succ]
              refine wpAnyH_take (i := 6) (v := .pointer (some ⟨X, 2, none⟩)) rfl (by kernel_rfl) (by kernel_rfl) (by kernel_rfl) (fun _ _ _ h => h) (Or.inl ⟨by kernel_rfl, fun w hSw => by (go_simp)⟩) hHeld ?_
              try simp only [Act.put, List.setIfInBounds_toArray, List.set_cons_zero, List.set_cons_succ]
              refine wpAnyH_take (i := 7) (v := .int .i64 (a : Int)) rfl (by kernel_rfl) (by kernel_rfl) (by kernel_rfl) (fun _ _ _ h => h) (Or.inl ⟨by kernel_rfl, fun w hSw => by (obtain ⟨q0, q1, q2, q3, q4, q5⟩ := hSw.1; go_simp)⟩) hHeld ?_
              try simp only [Act.put, List.setIfInBounds_toArray, List.set_cons_zero, List.set_cons_succ]
              refine wpAnyH_take (i := 8) (v := .pointer (some ⟨w.heap.size + 3, a, none⟩)) rfl (by kernel_rfl) (by kernel_rfl) (by kernel_rfl) (fun _ _ _ h => h) (Or.inl ⟨by kernel_rfl, fun w hSw => by (go_simp)⟩) hHeld ?_
              try simp only [Act.put, List.setIfInBounds_toArray, List.set_cons_zero, List.set_cons_succ]
              refine wpAnyH_take (i := 10) (v := .pointer (some ⟨X, 3, none⟩)) rfl (by kernel_rfl) (by kernel_rfl) (by kernel_rfl) (fun _ _ _ h => h) (Or.inl ⟨by kernel_rfl, fun w hSw => by (go_simp)⟩) hHeld ?_
              try simp only [Act.put, List.setIfInBounds_toArray, List.set_cons_zero, List.set_cons_succ]
              refine wpAnyH_take (i := 11) (v := .int .i64 (b : Int)) rfl (by kernel_rfl) (by kernel_rfl) (by kernel_rfl) (fun _ _ _ h => h) (Or.inl ⟨by kernel_rfl, fun w hSw => by (obtain ⟨q0, q1, q2, q3, q4, q5⟩ := hSw.1; go_simp)⟩) hHeld ?_
              try simp only [Act.put, List.setIfInBounds_toArray, List.set_cons_zero, List.set_cons_succ]
              refine wpAnyH_take (i := 12) (v := .pointer (some ⟨w.heap.size + 3, b, none⟩)) rfl (by kernel_rfl) (by kernel_rfl) (by kernel_rfl) (fun _ _ _ h => h) (Or.inl ⟨by kernel_rfl, fun w hSw => by (go_simp)⟩) hHeld ?_
              try simp only [Act.put, List.setIfInBounds_toArray, List.set_cons_zero, List.set_cons_succ]
              have rI := RR.out.keep hkI
              have ea := rI.l.cell a ak
              rw [← HZA.out] at ea
              have eb := rI.l.cell b bk
              rw [← HZB.out] at eb
              have ed := rI.l.cell d dk
              have fd := rI.l.frozen d
              have HN := Lib.hid (rI.set d (valV W 11 za zb))
              clear rI
              generalize sk[d] = zd at ed
              refine wpAnyH_ready (rs := [9, 13]) (by kernel_rfl) (by simp) ?_
              refine AllReadyH.cons (o := _) rfl (fun K9 hK9 => ?_) (AllReadyH.cons (o := _) rfl (fun K9 hK9 => ?_) AllReadyH.nil)
              · go_simp
                refine hK9.out _ _ (hHeld) (fun hHeld => ?_)
                clear hK9 K9
                try simp only [Act.put, List.setIfInBounds_toArray, List.set_cons_zero, List.set_cons_succ]
                refine wpAnyH_ready (rs := [13]) (by kernel_rfl) (by simp) ?_
                refine AllReadyH.cons (o := _) rfl (fun K9 hK9 => ?_) AllReadyH.nil
                go_simp
                refine hK9.out _ _ (hHeld) (fun hHeld => ?_)
                clear hK9 K9
                try simp only [Act.put, List.setIfInBounds_toArray, List.set_cons_zero, List.set_cons_succ]
                refine wpAnyH_ready (rs := [14]) (by kernel_rfl) (by simp) ?_
                refine AllReadyH.cons (o := _) rfl (fun K9 hK9 => ?_) AllReadyH.nil
                go_simp
                go_at_call 52
                refine (val52 W 11 za zb h1 h2 (by omega) (by omega) _).mono ?_
                rintro e w' ⟨rfl, rfl⟩
                refine hK9.out _ _ (hHeld) (fun hHeld => ?_)
                clear hK9 K9
                try simp only [Act.put, List.setIfInBounds_toArray, List.set_cons_zero, List.set_cons_succ]
                refine wpAnyH_take (i := 15) (v := .pointer (some ⟨w.heap.size + 3, d, none⟩)) rfl (by kernel_rfl) (by kernel_rfl) (by kernel_rfl) (fun _ _ _ h => h) (Or.inl ⟨by kernel_rfl, fun w hSw => by (go_simp)⟩) hHeld ?_
                try simp only [Act.put, List.setIfInBounds_toArray, List.set_cons_zero, List.set_cons_succ]
                refine wpAnyH_ready (rs := [16]) (by kernel_rfl) (by simp) ?_
                refine AllReadyH.cons (o := _) rfl (fun K9 hK9 => ?_) AllReadyH.nil
                go_simp
                refine hK9.out _ _ (⟨hHeld.1.other _ _ (by have := XO.out; show X ≠ w.heap.size + 3; omega), hHeld.2.other _ _ (by show w.heap.size ≠ w.heap.size + 3; omega)⟩) (fun hHeld => ?_)
                clear hK9 K9
                try simp only [Act.put, List.setIfInBounds_toArray, List.set_cons_zero, List.set_cons_succ]
                refine wpAnyH_done (by kernel_rfl) ?_ _
                clear hHeld
                clear ea eb ed fd
                go_wp2_with fail
                go_roundw
                case rel =>
                  (repeat apply Exists.intro)
                  exact ⟨⟨k + 1, _, by omega, by go_num, (by rw [List.length_set]; exact HSK.out), by rw [HT.out]; exact HST.out, HN.out⟩, rfl⟩
                case measure => simp [intOf]; omega
              · go_simp
                refine hK9.out _ _ (hHeld) (fun hHeld => ?_)
                clear hK9 K9
                try simp only [Act.put, List.setIfInBounds_toArray, List.set_cons_zero, List.set_cons_succ]
                refine wpAnyH_ready (rs := [9]) (by kernel_rfl) (by simp) ?_
                refine AllReadyH.cons (o := _) rfl (fun K9 hK9 => ?_) AllReadyH.nil
                go_simp
                refine hK9.out _ _ (hHeld) (fun hHeld => ?_)
                clear hK9 K9
                try simp only [Act.put, List.setIfInBounds_toArray, List.set_cons_zero, List.set_cons_succ]
                refine wpAnyH_ready (rs := [14]) (by kernel_rfl) (by simp) ?_
                refine AllReadyH.cons (o := _) rfl (fun K9 hK9 => ?_) AllReadyH.nil
                go_simp
                go_at_call 52
                refine (val52 W 11 za zb h1 h2 (by omega) (by omega) _).mono ?_
                rintro e w' ⟨rfl, rfl⟩
                refine hK9.out _ _ (hHeld) (fun hHeld => ?_)
                clear hK9 K9
                try simp only [Act.put, List.setIfInBounds_toArray, List.set_cons_zero, List.set_cons_succ]
                refine wpAnyH_take (i := 15) (v := .pointer (some ⟨w.heap.size + 3, d, none⟩)) rfl (by kernel_rfl) (by kernel_rfl) (by kernel_rfl) (fun _ _ _ h => h) (Or.inl ⟨by kernel_rfl, fun w hSw => by (go_simp)⟩) hHeld ?_
                try simp only [Act.put, List.setIfInBounds_toArray, List.set_cons_zero, List.set_cons_succ]
                refine wpAnyH_ready (rs := [16]) (by kernel_rfl) (by simp) ?_
                refine AllReadyH.cons (o := _) rfl (fun K9 hK9 => ?_) AllReadyH.nil
                go_simp
                refine hK9.out _ _ (⟨hHeld.1.other _ _ (by have := XO.out; show X ≠ w.heap.size + 3; omega), hHeld.2.other _ _ (by show w.heap.size ≠ w.heap.size + 3; omega)⟩) (fun hHeld => ?_)
                clear hK9 K9
                try simp only [Act.put, List.setIfInBounds_toArray, List.set_cons_zero, List.set_cons_succ]
                refine wpAnyH_done (by kernel_rfl) ?_ _
                clear hHeld
                clear ea eb ed fd
                go_wp2_with fail
                go_roundw
                case rel =>
                  (repeat apply Exists.intro)
                  exact ⟨⟨k + 1, _, by omega, by go_num, (by rw [List.length_set]; exact HSK.out), by rw [HT.out]; exact HST.out, HN.out⟩, rfl⟩
                case measure => simp [intOf]; omega
          have n2 := h
          clear h
          by_cases h : op = 12
          · subst h
            have := hd (by omega)
            have := ha (by omega)
            have := hb (by omega)
            clear hd ha hb hc
            obtain ⟨d, rfl⟩ : ∃ x : Nat, d' = x := ⟨d'.toNat, by omega⟩
            have d8 : d < 8 := by omega
            have d0 : (0 : Int) ≤ d := by omega
            have d1 : (d : Int) < 8 := by omega
            have dk : d < sk.length := by have := HSK.out; omega
            have ed := RL.out.cell d dk
            have fd := RL.out.frozen d
            obtain ⟨a, rfl⟩ : ∃ x : Nat, a' = x := ⟨a'.toNat, by omega⟩
            have a8 : a < 8 := by omega
            have a0 : (0 : Int) ≤ a := by omega
            have a1 : (a : Int) < 8 := by omega
            have ak : a < sk.length := by have := HSK.out; omega
            have ea := RL.out.cell a ak
            have fa := RL.out.frozen a
            obtain ⟨b, rfl⟩ : ∃ x : Nat, b' = x := ⟨b'.toNat, by omega⟩
            have b8 : b < 8 := by omega
            have b0 : (0 : Int) ≤ b := by omega
            have b1 : (b : Int) < 8 := by omega
            have bk : b < sk.length := by have := HSK.out; omega
            have eb := RL.out.cell b bk
            have fb := RL.out.frozen b
            by_cases hz : sk[b] = 0
            · have HST := Lib.hid (st_trap (f := valV W) (s := sk) 12 d a c' imm b (by omega) bk hz)
              rw [hz] at eb
              clear hz
              go_upto_region 15 with (fail)
              have HR2 := Lib.hid (RS.out.row (s' := sk))
              have KR := Lib.hid RR.out.k
              refine wp_region_lit ?_
              refine wpList_load_row rfl 45 _ rfl (w.heap.size + 3) rfl 45 (ua sk) (0, 0) _ RL.out Try.underlying45 rfl (by rw [ua_size, HSK.out]; kernel_rfl) ?_
              refine wpList_store_row rfl 45 _ _ rfl (w.heap.size + 2) (ua sk) rfl rfl 45 (ua z8) RS.out (by rw [ua_size, HSK.out]; kernel_rfl) (by rw [ua_size, ua_size, HSK.out]; rfl) (ua_one _) ?_
              go_wp2_with fail
              exact bodyPost_ret (results_cell_row_tmp Try.results29 _ _ (w.heap.size + 2) 45 (ua sk) (0, 0) _ rfl HR2.out Try.underlying45 rfl (by rw [ua_size, HSK.out]; kernel_rfl)) rfl ⟨below_setRow (show Below w.heap.size w wa from KR.out) (by omega) _, .inr ⟨HNo.out (HST.out), sk, HSK.out, rfl⟩⟩
            · obtain ⟨za, hza⟩ : ∃ x : Int, x = sk[a] := ⟨_, rfl⟩
              obtain ⟨zb, hzb⟩ : ∃ x : Int, x = sk[b] := ⟨_, rfl⟩
              rw [← hzb] at hz eb
              have HST := Lib.hid (st_valz (f := valV W) (s := sk) 12 d a b c' imm za zb (by omega) (by omega) ak bk hza hzb (fun h => hz h.2))
              have HZA := Lib.hid hza
              have HZB := Lib.hid hzb
              clear hza hzb ea ed fa fb fd
              go_upto_region 10 with (fail)
              clear eb hz c0 c1 c2 c3 y0 y1 y2 y3 y4 y5
              refine wp_region_held_drew (S := fun w' => X6 w' X ⟨12, d, a, b, c', imm⟩ ∧ B4 w' w.heap.size (.int .i64 W) (.int .i64 R) (.slice (some ⟨b₀, o, none⟩) ins.length pc) (.slice q m qc)) (by kernel_rfl) (⟨y6.keep (bk_drew (BK.refl _)), RR.out.c.keep (bk_drew (BK.refl _))⟩) (fun hHeld => ?_)
              have hkI := bk_drew (BK.refl wa)
              generalize wa.drew = wI at hHeld hkI ⊢
              refine wpAnyH_take (i := 0) (v := .pointer (some ⟨X, 1, none⟩)) rfl (by kernel_rfl) (by kernel_rfl) (by kernel_rfl) (fun _ _ _ h => h) (Or.inl ⟨by kernel_rfl, fun w hSw => by (go_simp)⟩) hHeld ?_
              try simp only [Act.put, List.setIfInBounds_toArray, List.set_cons_zero, List.set_cons_succ]
              refine wpAnyH_take (i := 1) (v := .int .i64 (d : Int)) rfl (by kernel_rfl) (by kernel_rfl) (by kernel_rfl) (fun _ _ _ h => h) (Or.inl ⟨by kernel_rfl, fun w hSw => by (obtain ⟨q0, q1, q2, q3, q4, q5⟩ := hSw.1; go_simp)⟩) hHeld ?_
              try simp only [Act.put, List.setIfInBounds_toArray, List.set_cons_zero, List.set_cons_succ]
              refine wpAnyH_take (i := 2) (v := .pointer (some ⟨X, 0, none⟩)) rfl (by kernel_rfl) (by kernel_rfl) (by kernel_rfl) (fun _ _ _ h => h) (Or.inl ⟨by kernel_rfl, fun w hSw => by (go_simp)⟩) hHeld ?_
              try simp only [Act.put, List.setIfInBounds_toArray, List.set_cons_zero, List.set_cons_succ]
              refine wpAnyH_take (i := 3) (v := .int .i64 12) rfl (by kernel_rfl) (by kernel_rfl) (by kernel_rfl) (fun _ _ _ h => h) (Or.inl ⟨by kernel_rfl, fun w hSw => by (obtain ⟨q0, q1, q2, q3, q4, q5⟩ := hSw.1; go_simp)⟩) hHeld ?_
              try simp only [Act.put, List.setIfInBounds_toArray, List.set_cons_zero, List.set_cons_succ]
              refine wpAnyH_take (i := 4) (v := .pointer (some ⟨w.heap.size, 0, none⟩)) rfl (by kernel_rfl) (by kernel_rfl) (by kernel_rfl) (fun _ _ _ h => h) (Or.inl ⟨by kernel_rfl, fun w hSw => by (go_simp)⟩) hHeld ?_
              try simp only [Act.put, List.setIfInBounds_toArray, List.set_cons_zero, List.set_cons_succ]
              refine wpAnyH_take (i := 5) (v := .int .i64 W) rfl (by kernel_rfl) (by kernel_rfl) (by kernel_rfl) (fun _ _ _ h => h) (Or.inl ⟨by kernel_rfl, fun w hSw => by (obtain ⟨q0, q1, q2, q3⟩ := hSw.2; go_simp)⟩) hHeld ?_
              try simp only [Act.put, List.setIfInBounds_toArray, List.set_cons_zero, List.set_cons_succ]
              refine wpAnyH_take (i := 6) (v := .pointer (some ⟨X, 2, none⟩)) rfl (by kernel_rfl) (by kernel_rfl) (by kernel_rfl) (fun _ _ _ h => h) (Or.inl ⟨by kernel_rfl, fun w hSw => by (go_simp)⟩) hHeld ?_
              try simp only [Act.put, List.setIfInBounds_toArray, List.set_cons_zero, List.set_cons_succ]
              refine wpAnyH_take (i := 7) (v := .int .i64 (a : Int)) rfl (by kernel_rfl) (by kernel_rfl) (by kernel_rfl) (fun _ _ _ h => h) (Or.inl ⟨by kernel_rfl, fun w hSw => by (obtain ⟨q0, q1, q2, q3, q4, q5⟩ := hSw.1; go_simp)⟩) hHeld ?_
              try simp only [Act.put, List.setIfInBounds_toArray, List.set_cons_zero, List.set_cons_succ]
              refine wpAnyH_take (i := 8) (v := .pointer (some ⟨w.heap.size + 3, a, none⟩)) rfl (by kernel_rfl) (by kernel_rfl) (by kernel_rfl) (fun _ _ _ h => h) (Or.inl ⟨by kernel_rfl, fun w hSw => by (go_simp)⟩) hHeld ?_
              try simp only [Act.put, List.setIfInBounds_toArray, List.set_cons_zero, List.set_cons_succ]
              refine wpAnyH_take (i := 10) (v := .pointer (some ⟨X, 3, none⟩)) rfl (by kernel_rfl) (by kernel_rfl) (by kernel_rfl) (fun _ _ _ h => h) (Or.inl ⟨by kernel_rfl, fun w hSw => by (go_simp)⟩) hHeld ?_
              try simp only [Act.put, List.setIfInBounds_toArray, List.set_cons_zero, List.set_cons_succ]
              refine wpAnyH_take (i := 11) (v := .int .i64 (b : Int)) rfl (by kernel_rfl) (by kernel_rfl) (by kernel_rfl) (fun _ _ _ h => h) (Or.inl ⟨by kernel_rfl, fun w hSw => by (obtain ⟨q0, q1, q2, q3, q4, q5⟩ := hSw.1; go_simp)⟩) hHeld ?_
              try simp only [Act.put, List.setIfInBounds_toArray, List.set_cons_zero, List.set_cons_succ]
              refine wpAnyH_take (i := 12) (v := .pointer (some ⟨w.heap.size + 3, b, none⟩)) rfl (by kernel_rfl) (by kernel_rfl) (by kernel_rfl) (fun _ _ _ h => h) (Or.inl ⟨by kernel_rfl, fun w hSw => by (go_simp)⟩) hHeld ?_
              try simp only [Act.put, List.setIfInBounds_toArray, List.set_cons_zero, List.set_cons_succ]
              have rI := RR.out.keep hkI
              have ea := rI.l.cell a ak
              rw [← HZA.out] at ea
              have eb := rI.l.cell b bk
              rw [← HZB.out] at eb
              have ed := rI.l.cell d dk
              have fd := rI.l.frozen d
              have HN := Lib.hid (rI.set d (valV W 12 za zb))
              clear rI
              generalize sk[d] = zd at ed
              refine wpAnyH_ready (rs := [9, 13]) (by kernel_rfl) (by simp) ?_
              refine AllReadyH.cons (o := _) rfl (fun K9 hK9 => ?_) (AllReadyH.cons (o := _) rfl (fun K9 hK9 => ?_) AllReadyH.nil)
              · go_simp
                refine hK9.out _ _ (hHeld) (fun hHeld => ?_)
                clear hK9 K9
                try simp only [Act.put, List.setIfInBounds_toArray, List.set_cons_zero, List.set_cons_succ]
                refine wpAnyH_ready (rs := [13]) (by kernel_rfl) (by simp) ?_
                refine AllReadyH.cons (o := _) rfl (fun K9 hK9 => ?_) AllReadyH.nil
                go_simp
                refine hK9.out _ _ (hHeld) (fun hHeld => ?_)
                clear hK9 K9
                try simp only [Act.put, List.setIfInBounds_toArray, List.set_cons_zero, List.set_cons_succ]
                refine wpAnyH_ready (rs := [14]) (by kernel_rfl) (by simp) ?_
                refine AllReadyH.cons (o := _) rfl (fun K9 hK9 => ?_) AllReadyH.nil
                go_simp
                go_at_call 52
                refine (val52 W 12 za zb h1 h2 (by omega) (by omega) _).mono ?_
                rintro e w' ⟨rfl, rfl⟩
                refine hK9.out _ _ (hHeld) (fun hHeld => ?_)
                clear hK9 K9
                try simp only [Act.put, List.setIfInBounds_toArray, List.set_cons_zero, List.set_cons_succ]
                refine wpAnyH_take (i := 15) (v := .pointer (some ⟨w.heap.size + 3, d, none⟩)) rfl (by kernel_rfl) (by kernel_rfl) (by kernel_rfl) (fun _ _ _ h => h) (Or.inl ⟨by kernel_rfl, fun w hSw => by (go_simp)⟩) hHeld ?_
                try simp only [Act.put, List.setIfInBounds_toArray, List.set_cons_zero, List.set_cons_succ]
                refine wpAnyH_ready (rs := [16]) (by kernel_rfl) (by simp) ?_
                refine AllReadyH.cons (o := _) rfl (fun K9 hK9 => ?_) AllReadyH.nil
                go_simp
                refine hK9.out _ _ (⟨hHeld.1.other _ _ (by have := XO.out; show X ≠ w.heap.size + 3; omega), hHeld.2.other _ _ (by show w.heap.size ≠ w.heap.size + 3; omega)⟩) (fun hHeld => ?_)
                clear hK9 K9
                try simp only [Act.put, List.setIfInBounds_toArray, List.set_cons_zero, List.set_cons_succ]
                refine wpAnyH_done (by kernel_rfl) ?_ _
                clear hHeld
                clear ea eb ed fd
                go_wp2_with fail
                go_roundw
                case rel =>
                  (repeat apply Exists.intro)
                  exact ⟨⟨k + 1, _, by omega, by go_num, (by rw [List.length_set]; exact HSK.out), by rw [HT.out]; exact HST.out, HN.out⟩, rfl⟩
                case measure => simp [intOf]; omega
              · go_simp
                refine hK9.out _ _ (hHeld) (fun hHeld => ?_)
                clear hK9 K9
                try simp only [Act.put, List.setIfInBounds_toArray, List.set_cons_zero, List.set_cons_succ]
                refine wpAnyH_ready (rs := [9]) (by kernel_rfl) (by simp) ?_
                refine AllReadyH.cons (o := _) rfl (fun K9 hK9 => ?_) AllReadyH.nil
                go_simp
                refine hK9.out _ _ (hHeld) (fun hHeld => ?_)
                clear hK9 K9
                try simp only [Act.put, List.setIfInBounds_toArray, List.set_cons_zero, List.set_cons_succ]
                refine wpAnyH_ready (rs := [14]) (by kernel_rfl) (by simp) ?_
                refine AllReadyH.cons (o := _) rfl (fun K9 hK9 => ?_) AllReadyH.nil
                go_simp
                go_at_call 52
                refine (val52 W 12 za zb h1 h2 (by omega) (by omega) _).mono ?_
                rintro e w' ⟨rfl, rfl⟩
                refine hK9.out _ _ (hHeld) (fun hHeld => ?_)
                clear hK9 K9
                try simp only [Act.put, List.setIfInBounds_toArray, List.set_cons_zero, List.set_cons_succ]
                refine wpAnyH_take (i := 15) (v := .pointer (some ⟨w.heap.size + 3, d, none⟩)) rfl (by kernel_rfl) (by kernel_rfl) (by kernel_rfl) (fun _ _ _ h => h) (Or.inl ⟨by kernel_rfl, fun w hSw => by (go_simp)⟩) hHeld ?_
                try simp only [Act.put, List.setIfInBounds_toArray, List.set_cons_zero, List.set_cons_succ]
                refine wpAnyH_ready (rs := [16]) (by kernel_rfl) (by simp) ?_
                refine AllReadyH.cons (o := _) rfl (fun K9 hK9 => ?_) AllReadyH.nil
                go_simp
                refine hK9.out _ _ (⟨hHeld.1.other _ _ (by have := XO.out; show X ≠ w.heap.size + 3; omega), hHeld.2.other _ _ (by show w.heap.size ≠ w.heap.size + 3; omega)⟩) (fun hHeld => ?_)
                clear hK9 K9
                try simp only [Act.put, List.setIfInBounds_toArray, List.set_cons_zero, List.set_cons_succ]
                refine wpAnyH_done (by kernel_rfl) ?_ _
                clear hHeld
                clear ea eb ed fd
                go_wp2_with fail
                go_roundw
                case rel =>
                  (repeat apply Exists.intro)
                  exact ⟨⟨k + 1, _, by omega, by go_num, (by rw [List.length_set]; exact HSK.out), by rw [HT.out]; exact HST.out, HN.out⟩, rfl⟩
                case measure => simp [intOf]; omega
          have n3 := h
          clear h
          by_cases h : op = 19
          · subst h
            have := hd (by omega)
            have := ha (by omega)
            have := hb (by omega)
            have := hc rfl
            clear hd ha hb hc
            obtain ⟨d, rfl⟩ : ∃ x : Nat, d' = x := ⟨d'.toNat, by omega⟩
            have d8 : d < 8 := by omega
            have d0 : (0 : Int) ≤ d := by omega
            have d1 : (d : Int) < 8 := by omega
            have dk : d < sk.length := by have := HSK.out; omega
            have ed := RL.out.cell d dk
            have fd := RL.out.frozen d
            obtain ⟨a, rfl⟩ : ∃ x : Nat, a' = x := ⟨a'.toNat, by omega⟩
            have a8 : a < 8 := by omega
            have a0 : (0 : Int) ≤ a := by omega
            have a1 : (a : Int) < 8 := by omega
            have ak : a < sk.length := by have := HSK.out; omega
            have ea := RL.out.cell a ak
            have fa := RL.out.frozen a
            obtain ⟨b, rfl⟩ : ∃ x : Nat, b' = x := ⟨b'.toNat, by omega⟩
            have b8 : b < 8 := by omega
            have b0 : (0 : Int) ≤ b := by omega
            have b1 : (b : Int) < 8 := by omega
            have bk : b < sk.length := by have := HSK.out; omega
            have eb := RL.out.cell b bk
            have fb := RL.out.frozen b
            obtain ⟨c, rfl⟩ : ∃ x : Nat, c' = x := ⟨c'.toNat, by omega⟩
            have c8 : c < 8 := by omega
            have c0 : (0 : Int) ≤ c := by omega
            have c1 : (c : Int) < 8 := by omega
            have ck : c < sk.length := by have := HSK.out; omega
            have ec := RL.out.cell c ck
            have fc := RL.out.frozen c
            by_cases hz : sk[a] = 0
            · have HST := Lib.hid (st_sel0 (f := valV W) (s := sk) d a c (b : Int) imm ak ck hz)
              clear eb ec ed fa fb fc fd
              rw [hz] at ea
              clear hz
              go_upto_region 19 with (fail)
              clear ea c0 c1 c2 c3 y0 y1 y2 y3 y4 y5
              refine wp_region_held_drew (S := fun w' => X6 w' X ⟨19, d, a, b, c, imm⟩ ∧ B4 w' w.heap.size (.int .i64 W) (.int .i64 R) (.slice (some ⟨b₀, o, none⟩) ins.length pc) (.slice q m qc)) (by kernel_rfl) (⟨y6.keep (bk_drew (BK.refl _)), RR.out.c.keep (bk_drew (BK.refl _))⟩) (fun hHeld => ?_)
              have hkI := bk_drew (BK.refl wa)
              generalize wa.drew = wI at hHeld hkI ⊢
              refine wpAnyH_take (i := 0) (v := .pointer (some ⟨X, 1, none⟩)) rfl (by kernel_rfl) (by kernel_rfl) (by kernel_rfl) (fun _ _ _ h => h) (Or.inl ⟨by kernel_rfl, fun w hSw => by (go_simp)⟩) hHeld ?_
              try simp only [Act.put, List.setIfInBounds_toArray, List.set_cons_zero, List.set_cons_succ]
              refine wpAnyH_take (i := 1) (v := .int .i64 (d : Int)) rfl (by kernel_rfl) (by kernel_rfl) (by kernel_rfl) (fun _ _ _ h => h) (Or.inl ⟨by kernel_rfl, fun w hSw => by (obtain ⟨q0, q1, q2, q3, q4, q5⟩ := hSw.1; go_simp)⟩) hHeld ?_
              try simp only [Act.put, List.setIfInBounds_toArray, List.set_cons_zero, List.set_cons_succ]
              refine wpAnyH_take (i := 2) (v := .pointer (some ⟨X, 4, none⟩)) rfl (by kernel_rfl) (by kernel_rfl) (by kernel_rfl) (fun _ _ _ h => h) (Or.inl ⟨by kernel_rfl, fun w hSw => by (go_simp)⟩) hHeld ?_
              try simp only [Act.put, List.setIfInBounds_toArray, List.set_cons_zero, List.set_cons_succ]
              refine wpAnyH_take (i := 3) (v := .int .i64 (c : Int)) rfl (by kernel_rfl) (by kernel_rfl) (by kernel_rfl) (fun _ _ _ h => h) (Or.inl ⟨by kernel_rfl, fun w hSw => by (obtain ⟨q0, q1, q2, q3, q4, q5⟩ := hSw.1; go_simp)⟩) hHeld ?_
              try simp only [Act.put, List.setIfInBounds_toArray, List.set_cons_zero, List.set_cons_succ]
              refine wpAnyH_take (i := 4) (v := .pointer (some ⟨w.heap.size + 3, c, none⟩)) rfl (by kernel_rfl) (by kernel_rfl) (by kernel_rfl) (fun _ _ _ h => h) (Or.inl ⟨by kernel_rfl, fun w hSw => by (go_simp)⟩) hHeld ?_
              try simp only [Act.put, List.setIfInBounds_toArray, List.set_cons_zero, List.set_cons_succ]
              have rI := RR.out.keep hkI
              have es := rI.l.cell c ck
              have ed := rI.l.cell d dk
              have fd := rI.l.frozen d
              have HN := Lib.hid (rI.set d sk[c])
              clear rI
              generalize sk[c] = zs at es HST HN
              generalize sk[d] = zd at ed
              refine wpAnyH_ready (rs := [5]) (by kernel_rfl) (by simp) ?_
              refine AllReadyH.cons (o := _) rfl (fun K9 hK9 => ?_) AllReadyH.nil
              go_simp
              refine hK9.out _ _ (hHeld) (fun hHeld => ?_)
              clear hK9 K9
              try simp only [Act.put, List.setIfInBounds_toArray, List.set_cons_zero, List.set_cons_succ]
              refine wpAnyH_take (i := 6) (v := .pointer (some ⟨w.heap.size + 3, d, none⟩)) rfl (by kernel_rfl) (by kernel_rfl) (by kernel_rfl) (fun _ _ _ h => h) (Or.inl ⟨by kernel_rfl, fun w hSw => by (go_simp)⟩) hHeld ?_
              try simp only [Act.put, List.setIfInBounds_toArray, List.set_cons_zero, List.set_cons_succ]
              refine wpAnyH_ready (rs := [7]) (by kernel_rfl) (by simp) ?_
              refine AllReadyH.cons (o := _) rfl (fun K9 hK9 => ?_) AllReadyH.nil
              go_simp
              refine hK9.out _ _ (⟨hHeld.1.other _ _ (by have := XO.out; show X ≠ w.heap.size + 3; omega), hHeld.2.other _ _ (by show w.heap.size ≠ w.heap.size + 3; omega)⟩) (fun hHeld => ?_)
              clear hK9 K9
              try simp only [Act.put, List.setIfInBounds_toArray, List.set_cons_zero, List.set_cons_succ]
              refine wpAnyH_done (by kernel_rfl) ?_ _
              clear hHeld
              clear es ed fd
              go_wp2_with fail
              go_roundw
              case rel =>
                (repeat apply Exists.intro)
                exact ⟨⟨k + 1, _, by omega, by go_num, (by rw [List.length_set]; exact HSK.out), by rw [HT.out]; exact HST.out, HN.out⟩, rfl⟩
              case measure => simp [intOf]; omega
            · have HST := Lib.hid (st_sel1 (f := valV W) (s := sk) d a b (c : Int) imm ak bk hz)
              clear eb ec ed fa fb fc fd
              go_upto_region 17 with (fail)
              clear ea c0 c1 c2 c3 y0 y1 y2 y3 y4 y5
              clear hz
              refine wp_region_held_drew (S := fun w' => X6 w' X ⟨19, d, a, b, c, imm⟩ ∧ B4 w' w.heap.size (.int .i64 W) (.int .i64 R) (.slice (some ⟨b₀, o, none⟩) ins.length pc) (.slice q m qc)) (by kernel_rfl) (⟨y6.keep (bk_drew (BK.refl _)), RR.out.c.keep (bk_drew (BK.refl _))⟩) (fun hHeld => ?_)
              have hkI := bk_drew (BK.refl wa)
              generalize wa.drew = wI at hHeld hkI ⊢
              refine wpAnyH_take (i := 0) (v := .pointer (some ⟨X, 1, none⟩)) rfl (by kernel_rfl) (by kernel_rfl) (by kernel_rfl) (fun _ _ _ h => h) (Or.inl ⟨by kernel_rfl, fun w hSw => by (go_simp)⟩) hHeld ?_
              try simp only [Act.put, List.setIfInBounds_toArray, List.set_cons_zero, List.set_cons_succ]
              refine wpAnyH_take (i := 1) (v := .int .i64 (d : Int)) rfl (by kernel_rfl) (by kernel_rfl) (by kernel_rfl) (fun _ _ _ h => h) (Or.inl ⟨by kernel_rfl, fun w hSw => by (obtain ⟨q0, q1, q2, q3, q4, q5⟩ := hSw.1; go_simp)⟩) hHeld ?_
              try simp only [Act.put, List.setIfInBounds_toArray, List.set_cons_zero, List.set_cons_succ]
              refine wpAnyH_take (i := 2) (v := .pointer (some ⟨X, 3, none⟩)) rfl (by kernel_rfl) (by kernel_rfl) (by kernel_rfl) (fun _ _ _ h => h) (Or.inl ⟨by kernel_rfl, fun w hSw => by (go_simp)⟩) hHeld ?_
              try simp only [Act.put, List.setIfInBounds_toArray, List.set_cons_zero, List.set_cons_succ]
              refine wpAnyH_take (i := 3) (v := .int .i64 (b : Int)) rfl (by kernel_rfl) (by kernel_rfl) (by kernel_rfl) (fun _ _ _ h => h) (Or.inl ⟨by kernel_rfl, fun w hSw => by (obtain ⟨q0, q1, q2, q3, q4, q5⟩ := hSw.1; go_simp)⟩) hHeld ?_
              try simp only [Act.put, List.setIfInBounds_toArray, List.set_cons_zero, List.set_cons_succ]
              refine wpAnyH_take (i := 4) (v := .pointer (some ⟨w.heap.size + 3, b, none⟩)) rfl (by kernel_rfl) (by kernel_rfl) (by kernel_rfl) (fun _ _ _ h => h) (Or.inl ⟨by kernel_rfl, fun w hSw => by (go_simp)⟩) hHeld ?_
              try simp only [Act.put, List.setIfInBounds_toArray, List.set_cons_zero, List.set_cons_succ]
              have rI := RR.out.keep hkI
              have es := rI.l.cell b bk
              have ed := rI.l.cell d dk
              have fd := rI.l.frozen d
              have HN := Lib.hid (rI.set d sk[b])
              clear rI
              generalize sk[b] = zs at es HST HN
              generalize sk[d] = zd at ed
              refine wpAnyH_ready (rs := [5]) (by kernel_rfl) (by simp) ?_
              refine AllReadyH.cons (o := _) rfl (fun K9 hK9 => ?_) AllReadyH.nil
              go_simp
              refine hK9.out _ _ (hHeld) (fun hHeld => ?_)
              clear hK9 K9
              try simp only [Act.put, List.setIfInBounds_toArray, List.set_cons_zero, List.set_cons_succ]
              refine wpAnyH_take (i := 6) (v := .pointer (some ⟨w.heap.size + 3, d, none⟩)) rfl (by kernel_rfl) (by kernel_rfl) (by kernel_rfl) (fun _ _ _ h => h) (Or.inl ⟨by kernel_rfl, fun w hSw => by (go_simp)⟩) hHeld ?_
              try simp only [Act.put, List.setIfInBounds_toArray, List.set_cons_zero, List.set_cons_succ]
              refine wpAnyH_ready (rs := [7]) (by kernel_rfl) (by simp) ?_
              refine AllReadyH.cons (o := _) rfl (fun K9 hK9 => ?_) AllReadyH.nil
              go_simp
              refine hK9.out _ _ (⟨hHeld.1.other _ _ (by have := XO.out; show X ≠ w.heap.size + 3; omega), hHeld.2.other _ _ (by show w.heap.size ≠ w.heap.size + 3; omega)⟩) (fun hHeld => ?_)
              clear hK9 K9
              try simp only [Act.put, List.setIfInBounds_toArray, List.set_cons_zero, List.set_cons_succ]
              refine wpAnyH_done (by kernel_rfl) ?_ _
              clear hHeld
              clear es ed fd
              go_wp2_with fail
              go_roundw
              case rel =>
                (repeat apply Exists.intro)
                exact ⟨⟨k + 1, _, by omega, by go_num, (by rw [List.length_set]; exact HSK.out), by rw [HT.out]; exact HST.out, HN.out⟩, rfl⟩
              case measure => simp [intOf]; omega
          have n4 := h
          clear h
          have := hd (by omega)
          have := ha (by omega)
          have := hb (by omega)
          have o2 : 2 ≤ op := by omega
          have o18 : op ≤ 18 := by omega
          clear hd ha hb hc o0 o1
          obtain ⟨d, rfl⟩ : ∃ x : Nat, d' = x := ⟨d'.toNat, by omega⟩
          have d8 : d < 8 := by omega
          have d0 : (0 : Int) ≤ d := by omega
          have d1 : (d : Int) < 8 := by omega
          have dk : d < sk.length := by have := HSK.out; omega
          have ed := RL.out.cell d dk
          have fd := RL.out.frozen d
          obtain ⟨a, rfl⟩ : ∃ x : Nat, a' = x := ⟨a'.toNat, by omega⟩
          have a8 : a < 8 := by omega
          have a0 : (0 : Int) ≤ a := by omega
          have a1 : (a : Int) < 8 := by omega
          have ak : a < sk.length := by have := HSK.out; omega
          have ea := RL.out.cell a ak
          have fa := RL.out.frozen a
          obtain ⟨b, rfl⟩ : ∃ x : Nat, b' = x := ⟨b'.toNat, by omega⟩
          have b8 : b < 8 := by omega
          have b0 : (0 : Int) ≤ b := by omega
          have b1 : (b : Int) < 8 := by omega
          have bk : b < sk.length := by have := HSK.out; omega
          have eb := RL.out.cell b bk
          have fb := RL.out.frozen b
          obtain ⟨za, hza⟩ : ∃ x : Int, x = sk[a] := ⟨_, rfl⟩
          obtain ⟨zb, hzb⟩ : ∃ x : Int, x = sk[b] := ⟨_, rfl⟩
          have HST := Lib.hid (st_valz (f := valV W) (s := sk) op d a b c' imm za zb (by omega) (by omega) ak bk hza hzb (fun h => by omega))
          have HZA := Lib.hid hza
          have HZB := Lib.hid hzb
          clear hza hzb ea eb ed fa fb fd
          go_upto_region 10 with (fail)
          clear c0 c1 c2 c3 y0 y1 y2 y3 y4 y5
          refine wp_region_held_drew (S := fun w' => X6 w' X ⟨op, d, a, b, c', imm⟩ ∧ B4 w' w.heap.size (.int .i64 W) (.int .i64 R) (.slice (some ⟨b₀, o, none⟩) ins.length pc) (.slice q m qc)) (by kernel_rfl) (⟨y6.keep (bk_drew (BK.refl _)), RR.out.c.keep (bk_drew (BK.refl _))⟩) (fun hHeld => ?_)
          have hkI := bk_drew (BK.refl wa)
          generalize wa.drew = wI at hHeld hkI ⊢
          refine wpAnyH_take (i := 0) (v := .pointer (some ⟨X, 1, none⟩)) rfl (by kernel_rfl) (by kernel_rfl) (by kernel_rfl) (fun _ _ _ h => h) (Or.inl ⟨by kernel_rfl, fun w hSw => by (go_simp)⟩) hHeld ?_
          try simp only [Act.put, List.setIfInBounds_toArray, List.set_cons_zero, List.set_cons_succ]
          refine wpAnyH_take (i := 1) (v := .int .i64 (d : Int)) rfl (by kernel_rfl) (by kernel_rfl) (by kernel_rfl) (fun _ _ _ h => h) (Or.inl ⟨by kernel_rfl, fun w hSw => by (obtain ⟨q0, q1, q2, q3, q4, q5⟩ := hSw.1; go_simp)⟩) hHeld ?_
          try simp only [Act.put, List.setIfInBounds_toArray, List.set_cons_zero, List.set_cons_succ]
          refine wpAnyH_take (i := 2) (v := .pointer (some ⟨X, 0, none⟩)) rfl (by kernel_rfl) (by kernel_rfl) (by kernel_rfl) (fun _ _ _ h => h) (Or.inl ⟨by kernel_rfl, fun w hSw => by (go_simp)⟩) hHeld ?_
          try simp only [Act.put, List.setIfInBounds_toArray, List.set_cons_zero, List.set_cons_succ]
          refine wpAnyH_take (i := 3) (v := .int .i64 op) rfl (by kernel_rfl) (by kernel_rfl) (by kernel_rfl) (fun _ _ _ h => h) (Or.inl ⟨by kernel_rfl, fun w hSw => by (obtain ⟨q0, q1, q2, q3, q4, q5⟩ := hSw.1; go_simp)⟩) hHeld ?_
          try simp only [Act.put, List.setIfInBounds_toArray, List.set_cons_zero, List.set_cons_succ]
          refine wpAnyH_take (i := 4) (v := .pointer (some ⟨w.heap.size, 0, none⟩)) rfl (by kernel_rfl) (by kernel_rfl) (by kernel_rfl) (fun _ _ _ h => h) (Or.inl ⟨by kernel_rfl, fun w hSw => by (go_simp)⟩) hHeld ?_
          try simp only [Act.put, List.setIfInBounds_toArray, List.set_cons_zero, List.set_cons_succ]
          refine wpAnyH_take (i := 5) (v := .int .i64 W) rfl (by kernel_rfl) (by kernel_rfl) (by kernel_rfl) (fun _ _ _ h => h) (Or.inl ⟨by kernel_rfl, fun w hSw => by (obtain ⟨q0, q1, q2, q3⟩ := hSw.2; go_simp)⟩) hHeld ?_
          try simp only [Act.put, List.setIfInBounds_toArray, List.set_cons_zero, List.set_cons_succ]
          refine wpAnyH_take (i := 6) (v := .pointer (some ⟨X, 2, none⟩)) rfl (by kernel_rfl) (by kernel_rfl) (by kernel_rfl) (fun _ _ _ h => h) (Or.inl ⟨by kernel_rfl, fun w hSw => by (go_simp)⟩) hHeld ?_
          try simp only [Act.put, List.setIfInBounds_toArray, List.set_cons_zero, List.set_cons_succ]
          refine wpAnyH_take (i := 7) (v := .int .i64 (a : Int)) rfl (by kernel_rfl) (by kernel_rfl) (by kernel_rfl) (fun _ _ _ h => h) (Or.inl ⟨by kernel_rfl, fun w hSw => by (obtain ⟨q0, q1, q2, q3, q4, q5⟩ := hSw.1; go_simp)⟩) hHeld ?_
          try simp only [Act.put, List.setIfInBounds_toArray, List.set_cons_zero, List.set_cons_succ]
          refine wpAnyH_take (i := 8) (v := .pointer (some ⟨w.heap.size + 3, a, none⟩)) rfl (by kernel_rfl) (by kernel_rfl) (by kernel_rfl) (fun _ _ _ h => h) (Or.inl ⟨by kernel_rfl, fun w hSw => by (go_simp)⟩) hHeld ?_
          try simp only [Act.put, List.setIfInBounds_toArray, List.set_cons_zero, List.set_cons_succ]
          refine wpAnyH_take (i := 10) (v := .pointer (some ⟨X, 3, none⟩)) rfl (by kernel_rfl) (by kernel_rfl) (by kernel_rfl) (fun _ _ _ h => h) (Or.inl ⟨by kernel_rfl, fun w hSw => by (go_simp)⟩) hHeld ?_
          try simp only [Act.put, List.setIfInBounds_toArray, List.set_cons_zero, List.set_cons_succ]
          refine wpAnyH_take (i := 11) (v := .int .i64 (b : Int)) rfl (by kernel_rfl) (by kernel_rfl) (by kernel_rfl) (fun _ _ _ h => h) (Or.inl ⟨by kernel_rfl, fun w hSw => by (obtain ⟨q0, q1, q2, q3, q4, q5⟩ := hSw.1; go_simp)⟩) hHeld ?_
          try simp only [Act.put, List.setIfInBounds_toArray, List.set_cons_zero, List.set_cons_succ]
          refine wpAnyH_take (i := 12) (v := .pointer (some ⟨w.heap.size + 3, b, none⟩)) rfl (by kernel_rfl) (by kernel_rfl) (by kernel_rfl) (fun _ _ _ h => h) (Or.inl ⟨by kernel_rfl, fun w hSw => by (go_simp)⟩) hHeld ?_
          try simp only [Act.put, List.setIfInBounds_toArray, List.set_cons_zero, List.set_cons_succ]
          have rI := RR.out.keep hkI
          have ea := rI.l.cell a ak
          rw [← HZA.out] at ea
          have eb := rI.l.cell b bk
          rw [← HZB.out] at eb
          have ed := rI.l.cell d dk
          have fd := rI.l.frozen d
          have HN := Lib.hid (rI.set d (valV W op za zb))
          clear rI
          generalize sk[d] = zd at ed
          refine wpAnyH_ready (rs := [9, 13]) (by kernel_rfl) (by simp) ?_
          refine AllReadyH.cons (o := _) rfl (fun K9 hK9 => ?_) (AllReadyH.cons (o := _) rfl (fun K9 hK9 => ?_) AllReadyH.nil)
          · go_simp
            refine hK9.out _ _ (hHeld) (fun hHeld => ?_)
            clear hK9 K9
            try simp only [Act.put, List.setIfInBounds_toArray, List.set_cons_zero, List.set_cons_succ]
            refine wpAnyH_ready (rs := [13]) (by kernel_rfl) (by simp) ?_
            refine AllReadyH.cons (o := _) rfl (fun K9 hK9 => ?_) AllReadyH.nil
            go_simp
            refine hK9.out _ _ (hHeld) (fun hHeld => ?_)
            clear hK9 K9
            try simp only [Act.put, List.setIfInBounds_toArray, List.set_cons_zero, List.set_cons_succ]
            refine wpAnyH_ready (rs := [14]) (by kernel_rfl) (by simp) ?_
            refine AllReadyH.cons (o := _) rfl (fun K9 hK9 => ?_) AllReadyH.nil
            go_simp
            go_at_call 52
            refine (val52 W op za zb h1 h2 (by omega) (by omega) _).mono ?_
            rintro e w' ⟨rfl, rfl⟩
            refine hK9.out _ _ (hHeld) (fun hHeld => ?_)
            clear hK9 K9
            try simp only [Act.put, List.setIfInBounds_toArray, List.set_cons_zero, List.set_cons_succ]
            refine wpAnyH_take (i := 15) (v := .pointer (some ⟨w.heap.size + 3, d, none⟩)) rfl (by kernel_rfl) (by kernel_rfl) (by kernel_rfl) (fun _ _ _ h => h) (Or.inl ⟨by kernel_rfl, fun w hSw => by (go_simp)⟩) hHeld ?_
            try simp only [Act.put, List.setIfInBounds_toArray, List.set_cons_zero, List.set_cons_succ]
            refine wpAnyH_ready (rs := [16]) (by kernel_rfl) (by simp) ?_
            refine AllReadyH.cons (o := _) rfl (fun K9 hK9 => ?_) AllReadyH.nil
            go_simp
            refine hK9.out _ _ (⟨hHeld.1.other _ _ (by have := XO.out; show X ≠ w.heap.size + 3; omega), hHeld.2.other _ _ (by show w.heap.size ≠ w.heap.size + 3; omega)⟩) (fun hHeld => ?_)
            clear hK9 K9
            try simp only [Act.put, List.setIfInBounds_toArray, List.set_cons_zero, List.set_cons_succ]
            refine wpAnyH_done (by kernel_rfl) ?_ _
            clear hHeld
            clear ea eb ed fd
            go_wp2_with fail
            go_roundw
            case rel =>
              (repeat apply Exists.intro)
              exact ⟨⟨k + 1, _, by omega, by go_num, (by rw [List.length_set]; exact HSK.out), by rw [HT.out]; exact HST.out, HN.out⟩, rfl⟩
            case measure => simp [intOf]; omega
          · go_simp
            refine hK9.out _ _ (hHeld) (fun hHeld => ?_)
            clear hK9 K9
            try simp only [Act.put, List.setIfInBounds_toArray, List.set_cons_zero, List.set_cons_succ]
            refine wpAnyH_ready (rs := [9]) (by kernel_rfl) (by simp) ?_
            refine AllReadyH.cons (o := _) rfl (fun K9 hK9 => ?_) AllReadyH.nil
            go_simp
            refine hK9.out _ _ (hHeld) (fun hHeld => ?_)
            clear hK9 K9
            try simp only [Act.put, List.setIfInBounds_toArray, List.set_cons_zero, List.set_cons_succ]
            refine wpAnyH_ready (rs := [14]) (by kernel_rfl) (by simp) ?_
            refine AllReadyH.cons (o := _) rfl (fun K9 hK9 => ?_) AllReadyH.nil
            go_simp
            go_at_call 52
            refine (val52 W op za zb h1 h2 (by omega) (by omega) _).mono ?_
            rintro e w' ⟨rfl, rfl⟩
            refine hK9.out _ _ (hHeld) (fun hHeld => ?_)
            clear hK9 K9
            try simp only [Act.put, List.setIfInBounds_toArray, List.set_cons_zero, List.set_cons_succ]
            refine wpAnyH_take (i := 15) (v := .pointer (some ⟨w.heap.size + 3, d, none⟩)) rfl (by kernel_rfl) (by kernel_rfl) (by kernel_rfl) (fun _ _ _ h => h) (Or.inl ⟨by kernel_rfl, fun w hSw => by (go_simp)⟩) hHeld ?_
            try simp only [Act.put, List.setIfInBounds_toArray, List.set_cons_zero, List.set_cons_succ]
            refine wpAnyH_ready (rs := [16]) (by kernel_rfl) (by simp) ?_
            refine AllReadyH.cons (o := _) rfl (fun K9 hK9 => ?_) AllReadyH.nil
            go_simp
            refine hK9.out _ _ (⟨hHeld.1.other _ _ (by have := XO.out; show X ≠ w.heap.size + 3; omega), hHeld.2.other _ _ (by show w.heap.size ≠ w.heap.size + 3; omega)⟩) (fun hHeld => ?_)
            clear hK9 K9
            try simp only [Act.put, List.setIfInBounds_toArray, List.set_cons_zero, List.set_cons_succ]
            refine wpAnyH_done (by kernel_rfl) ?_ _
            clear hHeld
            clear ea eb ed fd
            go_wp2_with fail
            go_roundw
            case rel =>
              (repeat apply Exists.intro)
              exact ⟨⟨k + 1, _, by omega, by go_num, (by rw [List.length_set]; exact HSK.out), by rw [HT.out]; exact HST.out, HN.out⟩, rfl⟩
            case measure => simp [intOf]; omega
        · obtain rfl : k = ins.length := by omega
          rw [List.take_length] at hrun
          have HRUN := Lib.hid hrun
          have HR2 := Lib.hid (hr.r.row (s' := sk))
          have KR := Lib.hid hr.k
          have RL := Lib.hid hr.l
          have RS := Lib.hid hr.r
          clear hr hrun hsk
          go_upto_region 20 with (fail)
          refine wp_region_lit ?_
          refine wpList_load_row rfl 45 _ rfl (w.heap.size + 3) rfl 45 (ua sk) (0, 0) _ RL.out Try.underlying45 rfl (by rw [ua_size, HSK.out]; kernel_rfl) ?_
          refine wpList_store_row rfl 45 _ _ rfl (w.heap.size + 2) (ua sk) rfl rfl 45 (ua z8) RS.out (by rw [ua_size, HSK.out]; kernel_rfl) (by rw [ua_size, ua_size, HSK.out]; rfl) (ua_one _) ?_
          go_wp2_with fail
          exact bodyPost_ret (results_cell_row_tmp Try.results29 _ _ (w.heap.size + 2) 45 (ua sk) (0, 0) _ rfl HR2.out Try.underlying45 rfl (by rw [ua_size, HSK.out]; kernel_rfl)) rfl ⟨below_setRow (show Below w.heap.size w wr from KR.out) (by omega) _, .inl ⟨sk, HSK.out, HRUN.out, rfl⟩⟩
end Go.Proofs.Ytjmmaaphadeokaa
