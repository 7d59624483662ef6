/- Light: what it lets through is small. -/
import Derived.Test.YtnlpiaejfmdckaaDoorR
namespace Go.Proofs.YtnlpiaejfmdckaaDoor
open Go.RowKit
set_option linter.unusedVariables false
set_option linter.unusedSimpArgs false
theorem b5_new (w : World) (x0 x1 x2 x3 x4 : Value) (t : Nat) : C5 (w.alloc (.cells #[x0, x1, x2, x3, x4] t)) w.heap.size 0 x0 x1 x2 x3 x4 := by
  have h := Cs.new w #[x0, x1, x2, x3, x4] t
  exact ⟨h 0 _ rfl, h 1 _ rfl, h 2 _ rfl, h 3 _ rfl, h 4 _ rfl⟩
def PC (t : T) : Prop := ∀ op wd vl nm ts, t = .mk op wd vl nm ts → lbT t → ∀ (d l : Int) (w : World) (p : Option Addr) (c : Nat), RowD (mem 0 w) w p c ts → -100 ≤ d → d ≤ 100 → -1 ≤ l → l ≤ 1000 →
  Calls Tryd.prog 51 #[.agg #[.int .i64 op, .int .i64 wd, .int .u64 vl, .string nm, .slice p ts.length c], .int .i64 d, .int .i64 l] w fun e w' => (∃ z : Int, e = .returned (.int .i64 z) ∧ -1 ≤ z ∧ z ≤ 1000 ∧ (0 ≤ z → z < l ∧ smT t)) ∧ BK w w'
set_option maxRecDepth 100000 in
set_option maxHeartbeats 4000000 in
theorem count_any (t : T) : PC t := by
  induction t using T.ind with
  | h op' wd' vl' nm' ts' ih =>
    intro op wd vl nm ts ht hlb d l w p c hr hd0 hd1 hl0 hl1
    obtain ⟨rfl, rfl, rfl, rfl, rfl⟩ := T.mk.inj ht
    clear ht
    rw [lbT_mk] at hlb
    obtain ⟨-, hlen, hlbs⟩ := hlb
    unfold maxLen at hlen
    have LB := Lib.hid (fun x hx => lbL_iff.1 hlbs x hx)
    have HN := Lib.hid hlen
    have BD := Lib.hid (And.intro (And.intro hd0 hd1) (And.intro hl0 hl1))
    clear hlbs hlen
    by_cases hd : d < 1
    · clear ih LB HN hr
      go_enter Tryd.func51, Tryd.ntmps51
      go_wp2_with fail
      go_ret
      exact ⟨⟨-1, rfl, by omega, by omega, fun h => by omega⟩, bk_alloc (BK.refl _) _⟩
    · by_cases hl : l < 1
      · clear ih LB HN hr
        go_enter Tryd.func51, Tryd.ntmps51
        go_wp2_with fail
        go_ret
        exact ⟨⟨-1, rfl, by omega, by omega, fun h => by omega⟩, bk_alloc (BK.refl _) _⟩
      · have hx := b5_new w (.int .i64 op') (.int .i64 wd') (.int .u64 vl') (.string nm') (.slice p ts'.length c) 42
        have hk0 := bk_alloc (BK.refl w) (.cells #[.int .i64 op', .int .i64 wd', .int .u64 vl', .string nm', .slice p ts'.length c] 42)
        have hr0 := hr.bk hk0 (Nat.le_refl _)
        clear hr
        have el : IntKind.i64.wrap (l - 1) = l - 1 := by have := BD.out; exact IntWalk.i64_in _ (by omega)
        have ed : IntKind.i64.wrap (d - 1) = d - 1 := by have := BD.out; exact IntWalk.i64_in _ (by omega)
        have HL := Lib.hid (And.intro hd hl)
        clear hd0 hd1 hl0 hl1
        go_enter Tryd.func51, Tryd.ntmps51
        go_wp2_with fail
        generalize w.alloc (.cells #[.int .i64 op', .int .i64 wd', .int .u64 vl', .string nm', .slice p ts'.length c] 42) = w0 at *
        generalize hS : w.heap.size = S0 at *
        clear hS
        have HX := Lib.hid (fun wc (hb : BK w0 wc) => hx.bk hb)
        have HR := Lib.hid (fun wc (hb : BK w0 wc) => hr0.bk hb (Nat.le_refl _))
        have HK0 := Lib.hid hk0
        have IH := Lib.hid ih
        clear hx hk0 hr0 ih
        have HD := Lib.hid (And.intro el ed)
        have ed2 := ed
        clear el hd hl
        go_loopw [2, 7] (fun y x wr => ∃ (k : Nat) (m : Int), k ≤ ts'.length ∧ x = .int .i64 k ∧ y = .int .i64 m ∧ -1 ≤ m ∧ m ≤ 1000 ∧ (0 ≤ m → k + m ≤ l - 1 ∧ ∀ t ∈ ts'.take k, smT t) ∧ BK w0 wr) (fun _ x _ => ts'.length - (intOf x).toNat)
        case atStart => exact ⟨0, l - 1, Nat.zero_le _, rfl, rfl, by have := HL.out; omega, by have := BD.out; omega, fun _ => ⟨by simp, fun t ht => by simp at ht⟩, BK.refl _⟩
        case round =>
          obtain ⟨k, m, hk, rfl, rfl, hb0, hb1, hs, hkw⟩ := hrel
          have HK := Lib.hid hkw
          have HS := Lib.hid hs
          obtain ⟨-, -, -, -, x4⟩ := HX.out _ hkw
          rw [Nat.zero_add] at x4
          clear hs
          by_cases hlt : k < ts'.length
          · by_cases hneg : m < 0
            · have hm0 : ¬ 0 ≤ m := by omega
              have hdm : decide (0 ≤ m) = false := decide_eq_false hm0
              have hdk : decide (k < ts'.length) = true := by simpa using hlt
              clear hkw
              go_wp2_with fail
              go_ret
              exact ⟨⟨m, rfl, hb0, hb1, fun h => by omega⟩, bk_tr HK0.out HK.out⟩
            · have hm0 : 0 ≤ m := by omega
              have hdm : decide (0 ≤ m) = true := decide_eq_true hm0
              have hdk : decide (k < ts'.length) = true := by simpa using hlt
              have hki : (k : Int) < (ts'.length : Int) := by omega
              have ei : IntKind.i64.wrap ((k : Int) + 1) = (k : Int) + 1 := by have := HN.out; exact IntWalk.i64_in _ (by omega)
              obtain ⟨b, o, op2, wd2, vl2, nm2, us, q, dd, rfl, -, htk, hc5, hr5⟩ := (HR.out _ hkw).get hlt
              obtain ⟨c0, c1, c2, c3, c4⟩ := hc5
              have hmem : ts'[k] ∈ ts' := List.getElem_mem hlt
              have HC := Lib.hid (IH.out _ hmem op2 wd2 vl2 nm2 us htk (LB.out _ hmem) (d - 1) m wr q dd hr5 (by have := HL.out; omega) (by have := BD.out; omega) (by omega) hb1)
              have HLT := Lib.hid hlt
              clear hkw hmem htk hr5 hneg
              go_wp2_with fail
              refine HC.out.mono ?_
              rintro e w2 ⟨⟨z, rfl, hz0, hz1, hz⟩, hb2⟩
              have HZ := Lib.hid hz
              have H2 := Lib.hid (bk_tr HK.out hb2)
              clear hb2 c0 c1 c2 c3 c4 x4 hz
              go_wp2_with fail
              go_roundw
              case rel => exact ⟨k + 1, z, by have := HLT.out; omega, by go_num, rfl, hz0, hz1, fun h => ⟨by have := HZ.out h; have := HS.out hm0; omega, fun t ht => by
                rw [List.take_add_one, List.getElem?_eq_getElem HLT.out] at ht
                rcases List.mem_append.1 ht with ht | ht
                · exact (HS.out hm0).2 t ht
                · simp at ht
                  rw [ht]
                  exact (HZ.out h).2⟩, H2.out⟩
              case measure => have := HLT.out; simp [intOf]; omega
          · obtain rfl : k = ts'.length := by omega
            have hdk : decide (ts'.length < ts'.length) = false := by simp
            clear hkw
            go_wp2_with fail
            go_ret
            refine ⟨⟨m, rfl, hb0, hb1, fun h => ⟨by have := HS.out h; omega, ?_⟩⟩, bk_tr HK0.out HK.out⟩
            rw [smT_mk]
            have := HS.out h
            have hl2 := BD.out
            exact ⟨by omega, smL_iff.2 (by rw [List.take_length] at this; exact this.2)⟩
theorem results_ct {P : Program} {fn : Func} {p u : Tmp} {ty : TypeId} (h : fn.results = #[.cell p ty, .tmp u]) (tmps : Array Value) (w : World) (g : Nat) (t : TypeId) (cs : Array Value) (fr : Nat × Nat) (d : TypeDesc)
    (hp : tmps.getD p undef = .pointer (some ⟨g, 0, none⟩)) (hg : w.heap[g]? = some (.cells cs t fr))
    (hu : P.underlying ty = some d) (hd : (match d with | .struct _ | .array _ _ => true | _ => false) = true) (hi : (P.info? ty).map (·.size) = some cs.size) {x : Value} (hx : tmps.getD u undef = x) :
    (results fn tmps).run P w = .ok (.tuple #[.agg cs, x]) w := by
  have hp' : tmps[p]?.getD undef = .pointer (some ⟨g, 0, none⟩) := by simpa using hp
  have hx' : tmps[u]?.getD undef = x := by simpa using hx
  simp [results, h, hp', hx', asAddr, run_loadVar_row w g t ty cs fr d hg hu hd hi]
theorem size42 : (Tryd.prog.info? 42).map (·.size) = some 5 := by kernel_rfl
set_option maxRecDepth 100000 in
set_option maxHeartbeats 4000000 in
theorem light33 (op wd : Int) (vl : Nat) (nm : ByteArray) (ts : List T) (hlb : lbT (.mk op wd vl nm ts)) (w : World) (p : Option Addr) (c : Nat) (hr : RowD (mem 0 w) w p c ts) :
    Calls Tryd.prog 33 #[.agg #[.int .i64 op, .int .i64 wd, .int .u64 vl, .string nm, .slice p ts.length c], .int .i64 20, .int .i64 60] w fun e w' => (∃ (x0 x1 x2 : Int) (x3 : ByteArray) (x4 : Option Addr) (x5 x6 : Nat) (b : Bool), e = .returned (.tuple #[.agg #[.int .i64 x0, .int .i64 x1, .int .u64 x2, .string x3, .slice x4 x5 x6], .bool b]) ∧ (b = true → smT (.mk op wd vl nm ts))) ∧ BK w w' := by
  obtain ⟨h1, h2', h3'⟩ := two_boxes w #[.int .i64 op, .int .i64 wd, .int .u64 vl, .string nm, .slice p ts.length c] #[.int .i64 0, .int .i64 0, .int .u64 0, .string ⟨#[]⟩, .slice none 0 0] 42 42
  have h2 := cs_of_row h2'
  have h3 := cs_of_row h3'
  have HC := Lib.hid (count_any (.mk op wd vl nm ts) op wd vl nm ts rfl hlb 20 60 _ p c (hr.bk h1 (Nat.le_refl _)) (by omega) (by omega) (by omega) (by omega))
  have HK0 := Lib.hid h1
  have HX := Lib.hid (fun wc (hb : BK _ wc) => And.intro ((bk_block (w := wc) hb (Array.getElem?_eq_some_iff.1 h2').1).trans h2') ((bk_block (w := wc) hb (Array.getElem?_eq_some_iff.1 h3').1).trans h3'))
  have x0 := h2 0 _ rfl
  have x1 := h2 1 _ rfl
  have x2 := h2 2 _ rfl
  have x3 := h2 3 _ rfl
  have x4 := h2 4 _ rfl
  clear hr h1 h2 h3 h2' h3'
  go_enter Tryd.func33, Tryd.ntmps33
  go_wp2_with fail
  refine HC.out.mono ?_
  rintro e w1 ⟨⟨z, rfl, hz0, hz1, hz⟩, hb⟩
  have H1 := Lib.hid (bk_tr HK0.out hb)
  have HZ := Lib.hid hz
  obtain ⟨g2', g3'⟩ := HX.out _ hb
  have f0 := frozen_of_row _ _ 0 _ _ g3'
  have f1 := frozen_of_row _ _ 1 _ _ g3'
  have f2 := frozen_of_row _ _ 2 _ _ g3'
  have f3 := frozen_of_row _ _ 3 _ _ g3'
  have f4 := frozen_of_row _ _ 4 _ _ g3'
  have g2 := cs_of_row g2'
  have g3 := cs_of_row g3'
  have y0 := g2 0 _ rfl
  have y1 := g2 1 _ rfl
  have y2 := g2 2 _ rfl
  have y3 := g2 3 _ rfl
  have y4 := g2 4 _ rfl
  have z0 := g3 0 _ rfl
  have z1 := g3 1 _ rfl
  have z2 := g3 2 _ rfl
  have z3 := g3 3 _ rfl
  have z4 := g3 4 _ rfl
  simp only [Nat.zero_add] at y0 y1 y2 y3 y4 z0 z1 z2 z3 z4
  have KS := Lib.hid (show ∀ a b c d e, BK w (((((w1.setCell ⟨w.heap.size + 1, 0, none⟩ a).setCell ⟨w.heap.size + 1, 1, none⟩ b).setCell ⟨w.heap.size + 1, 2, none⟩ c).setCell ⟨w.heap.size + 1, 3, none⟩ d).setCell ⟨w.heap.size + 1, 4, none⟩ e) from fun a b c d e => bk_set (bk_set (bk_set (bk_set (bk_set H1.out _ _ (Nat.le_succ _)) _ _ (Nat.le_succ _)) _ _ (Nat.le_succ _)) _ _ (Nat.le_succ _)) _ _ (Nat.le_succ _))
  have CSX := Lib.hid (show ∀ a b c d e, (((((w1.setCell ⟨w.heap.size + 1, 0, none⟩ a).setCell ⟨w.heap.size + 1, 1, none⟩ b).setCell ⟨w.heap.size + 1, 2, none⟩ c).setCell ⟨w.heap.size + 1, 3, none⟩ d).setCell ⟨w.heap.size + 1, 4, none⟩ e).heap[w.heap.size + 1]? = some (.cells #[a, b, c, d, e] 42 (0, 0)) from fun a b c d e => put5_heap g3' rfl a b c d e)
  clear hb x0 x1 x2 x3 x4 hz g2 g3 g2' g3'
  by_cases hneg : z < 0
  · go_wp2_with fail
    exact bodyPost_ret (results_ct Tryd.results33 _ _ _ 42 _ (0, 0) _ rfl (CSX.out _ _ _ _ _) Tryd.underlying42 rfl size42 rfl) rfl ⟨⟨_, _, _, _, _, _, _, false, rfl, fun h => by cases h⟩, KS.out _ _ _ _ _⟩
  · have hm0 : 0 ≤ z := by omega
    go_wp2_with fail
    exact bodyPost_ret (results_ct Tryd.results33 _ _ _ 42 _ (0, 0) _ rfl (CSX.out _ _ _ _ _) Tryd.underlying42 rfl size42 rfl) rfl ⟨⟨_, _, _, _, _, _, _, true, rfl, fun _ => (HZ.out hm0).2⟩, KS.out _ _ _ _ _⟩
end Go.Proofs.YtnlpiaejfmdckaaDoor
