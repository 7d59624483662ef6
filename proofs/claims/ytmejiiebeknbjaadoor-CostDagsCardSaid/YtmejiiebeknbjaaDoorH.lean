/- The shape of a node, and what it reads as, as a key. -/
import Derived.Test.YtmejiiebeknbjaaDoorG
import Derived.Test.YtmejiiebeknbjaaDoorQ
namespace Go.Proofs.YtmejiiebeknbjaaDoor
open Go.RowKit Go.Maps
set_option linter.unusedVariables false
set_option linter.unusedSimpArgs false
theorem laidOut : laidOutB Tryd.prog = true := by kernel_rfl
theorem row53 : 53 < Tryd.prog.types.size := of_decide_eq_true (by kernel_rfl)
theorem law53 : Keyed Tryd.prog 53 := Keyed.of_law (deep_law_laid laidOut (m := 2) (by omega) row53 (by kernel_rfl) (by kernel_rfl))
def shapeV (op wd : Int) (vl : Nat) (nm s : ByteArray) : Value := .agg #[.int .i64 op, .int .i64 wd, .int .u64 vl, .string nm, .string s]
noncomputable def kl (v : Value) : Lit := (keyOf Tryd.prog 53 v).getD (.bool false)
theorem key53 {op wd : Int} {vl : Nat} {nm s : ByteArray} (h : Wf op wd vl nm) (hs : s.size ≤ maxLen) : keyOf Tryd.prog 53 (shapeV op wd vl nm s) = some (kl (shapeV op wd vl nm s)) := by
  have : ∃ l, keyOf Tryd.prog 53 (shapeV op wd vl nm s) = some l := by
    unfold keyOf
    rw [Tryd.underlying53]
    have hk : Tryd.prog.keyType 53 = true := by kernel_rfl
    have hc : Tryd.prog.cellsOf 53 = 5 := by kernel_rfl
    have h24 : Tryd.prog.cellsOf 24 = 1 := by kernel_rfl
    have h3 : Tryd.prog.cellsOf 3 = 1 := by kernel_rfl
    have h31 : Tryd.prog.cellsOf 31 = 1 := by kernel_rfl
    have h9 : Tryd.prog.cellsOf 9 = 1 := by kernel_rfl
    have hf : (shapeV op wd vl nm s).formed Tryd.prog 53 = true := by
      unfold shapeV Value.formed
      rw [Tryd.underlying53, hc]; rfl
    have wi : ∀ z : Int, In64 z → (Lit.int .i64 z).wf = true := fun z hz => by
      unfold In64 at hz
      simp [Lit.wf, IntKind.min, IntKind.max, IntKind.signed, IntKind.bits]; omega
    have wu : (Lit.int .u64 (vl : Int)).wf = true := by
      have := h.v
      simp [Lit.wf, IntKind.min, IntKind.max, IntKind.signed, IntKind.bits]; omega
    obtain ⟨d, hd⟩ : ∃ d, Tryd.prog.types.size + 1 = d + 2 := ⟨Tryd.prog.types.size - 1, by have := row53; omega⟩
    simp only [hk, hf]
    rw [hd]
    have e0 : ∀ z : Int, In64 z → Tryd.prog.keyLits (d + 1) 24 [.int .i64 z] = some [.int .i64 z] := fun z hz => by
      unfold Program.keyLits; rw [Tryd.underlying24]; simp [wi z hz]
    have e1 : ∀ z : Int, In64 z → Tryd.prog.keyLits (d + 1) 3 [.int .i64 z] = some [.int .i64 z] := fun z hz => by
      unfold Program.keyLits; rw [Tryd.underlying3]; simp [wi z hz]
    have e2 : Tryd.prog.keyLits (d + 1) 31 [.int .u64 (vl : Int)] = some [.int .u64 (vl : Int)] := by
      unfold Program.keyLits; rw [Tryd.underlying31]; simp [wu]
    have e3 : ∀ s : ByteArray, s.size ≤ maxLen → Tryd.prog.keyLits (d + 1) 9 [.string s] = some [.string s.data.toList] := fun s hs => by
      unfold Program.keyLits; rw [Tryd.underlying9]; simp [hs]
    have e : Tryd.prog.keyLits (d + 2) 53 (shapeV op wd vl nm s).cells.toList = some [.int .i64 op, .int .i64 wd, .int .u64 vl, .string nm.data.toList, .string s.data.toList] := by
      unfold Program.keyLits
      rw [Tryd.underlying53]
      simp [shapeV, Value.cells, hc, h24, h3, h31, h9, e0 op h.o, e1 wd h.d, e2, e3 nm h.s, e3 s hs]
    rw [e]
    exact ⟨_, rfl⟩
  obtain ⟨l, hl⟩ := this
  unfold kl; rw [hl]; rfl
theorem four {w' : World} {b : Nat} {x0 x1 x2 x3 x4 : Value} (h : B5 w' b x0 x1 x2 x3 x4) : w'.cell? ⟨b, 0, none⟩ = some x0 ∧ w'.cell? ⟨b, 1, none⟩ = some x1 ∧ w'.cell? ⟨b, 2, none⟩ = some x2 ∧ w'.cell? ⟨b, 3, none⟩ = some x3 := ⟨h.1, h.2.1, h.2.2.1, h.2.2.2.1⟩
set_option maxRecDepth 100000 in
set_option maxHeartbeats 1000000 in
theorem shape27 (op wd : Int) (vl : Nat) (nm : ByteArray) (pt : Option Addr) (n cc : Nat) (p : Option Addr) (c : Nat) (zs : List Int) (w : World) (ht : Tb w) (hr : Ra w p zs) (hl : zs.length ≤ 1000) (hz : ∀ k, In64 (zs.getD k 0)) :
    Calls Tryd.prog 27 #[.agg #[.int .i64 op, .int .i64 wd, .int .u64 vl, .string nm, .slice pt n cc], .slice p zs.length c] w fun e w' => e = .returned (shapeV op wd vl nm ⟨(txt zs).toArray⟩) ∧ BK w w' := by
  have hk0 : BK w ((w.alloc (.cells #[.int .i64 op, .int .i64 wd, .int .u64 vl, .string nm, .slice pt n cc] 34)).alloc (.cells #[.int .i64 0, .int .i64 0, .int .u64 0, .string ⟨#[]⟩, .string ⟨#[]⟩] 53)) := bk_alloc (bk_alloc (BK.refl w) _) _
  have hx := (b5_new w (.int .i64 op) (.int .i64 wd) (.int .u64 vl) (.string nm) (.slice pt n cc) 34).keep (bk_alloc (BK.refl _) (.cells #[.int .i64 0, .int .i64 0, .int .u64 0, .string ⟨#[]⟩, .string ⟨#[]⟩] 53)) (by simp)
  have hy := b5_new (w.alloc (.cells #[.int .i64 op, .int .i64 wd, .int .u64 vl, .string nm, .slice pt n cc] 34)) (.int .i64 0) (.int .i64 0) (.int .u64 0) (.string ⟨#[]⟩) (.string ⟨#[]⟩) 53
  have hfy := fz_new (w.alloc (.cells #[.int .i64 op, .int .i64 wd, .int .u64 vl, .string nm, .slice pt n cc] 34)) #[.int .i64 0, .int .i64 0, .int .u64 0, .string ⟨#[]⟩, .string ⟨#[]⟩] 53
  have hsz : ((w.alloc (.cells #[.int .i64 op, .int .i64 wd, .int .u64 vl, .string nm, .slice pt n cc] 34)).alloc (.cells #[.int .i64 0, .int .i64 0, .int .u64 0, .string ⟨#[]⟩, .string ⟨#[]⟩] 53)).heap.size = w.heap.size + 2 := by simp
  rw [show (w.alloc (.cells #[.int .i64 op, .int .i64 wd, .int .u64 vl, .string nm, .slice pt n cc] 34)).heap.size = w.heap.size + 1 by simp] at hy hfy
  have HC := Lib.hid (fun wc (hb : BK w wc) => text30 p c zs wc (ht.keep hb) (hr.keep hb) hl hz)
  clear ht hr hz
  generalize (⟨(txt zs).toArray⟩ : ByteArray) = s at HC ⊢
  go_enter Tryd.func27, Tryd.ntmps27
  go_wp2_with fail
  generalize (w.alloc (.cells #[.int .i64 op, .int .i64 wd, .int .u64 vl, .string nm, .slice pt n cc] 34)).alloc (.cells #[.int .i64 0, .int .i64 0, .int .u64 0, .string ⟨#[]⟩, .string ⟨#[]⟩] 53) = w0 at hk0 hx hy hfy hsz ⊢
  have HX := Lib.hid (fun wc (hb : BK w0 wc) => And.intro (hx.keep hb (by omega)) (And.intro (hy.keep hb (by omega)) (fz_keep hfy hb (by omega))))
  have HK0 := Lib.hid hk0
  clear hk0 hx hy hfy hsz
  go_region_held3 (fun w' => w'.cell? ⟨w.heap.size, 0, none⟩ = some (.int .i64 op) ∧ w'.cell? ⟨w.heap.size, 1, none⟩ = some (.int .i64 wd) ∧ w'.cell? ⟨w.heap.size, 2, none⟩ = some (.int .u64 vl) ∧ w'.cell? ⟨w.heap.size, 3, none⟩ = some (.string nm))
    (first | exact four (HX.out _ (by first | exact bk_drew (BK.refl w0) | exact hk2)).1 | (go_keep; done))
    ((go_at_call 30; refine (HC.out _ (bk_tr HK0.out (bk_drew (BK.refl w0)))).mono ?_; rintro e w2 ⟨rfl, hb2⟩; have hk2 := of_drew hb2; obtain ⟨-, ⟨y0, y1, y2, y3, y4⟩, fy⟩ := HX.out _ hk2))
  all_goals
    have HK := Lib.hid (bk_tr HK0.out hk2)
    clear hb2 hk2
    go_wp2_with fail
    refine bodyPost_ret (v := .agg #[.int .i64 op, .int .i64 wd, .int .u64 vl, .string nm, .string s]) (by simp [results, Tryd.results27, go_sem, y0, y1, y2, y3, y4, fy]) rfl ⟨rfl, ?_⟩
    exact bk_set (bk_set (bk_set (bk_set (bk_set HK.out _ _ (by simp)) _ _ (by simp)) _ _ (by simp)) _ _ (by simp)) _ _ (by simp)
end Go.Proofs.YtmejiiebeknbjaaDoor
