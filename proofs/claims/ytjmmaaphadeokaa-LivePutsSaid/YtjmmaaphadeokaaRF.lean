/- Replace: what is refused. -/
import Derived.Test.YtjmmaaphadeokaaRE
namespace Go.Proofs.Ytjmmaaphadeokaa
open Go.RowKit Go.Shelf
set_option linter.unusedVariables false
set_option linter.unusedSimpArgs false
theorem slice_hi (p : Option Addr) (len pc f : Nat) (h : f ≤ pc) (w : World) : (Instr.slice 22 (.slice p len pc) none (some (.int .i64 (f : Int))) none).run Try.prog w = .ok (.slice p f pc) w := by
  have z54 := Try.sizeOf54
  have he : Try.prog.elem 22 = 54 := by kernel_rfl
  rw [run_slice_h (P := Try.prog) w 22 p len pc (by kernel_rfl) .i64 f (by omega) (by omega), he, z54]
  simp only [Result.andThen, sliced, Int.toNat_natCast, Nat.sub_zero, Nat.zero_mul]
  have hp : (if pc = 0 then p else p.map (·.add 0)) = p := by
    split
    · rfl
    · cases p <;> simp [Addr.add]
  rw [hp]
def loP (p : Option Addr) (pc k : Nat) : Option Addr := if pc = k then p else p.map (·.add (k * 6))
theorem slice_lo (p : Option Addr) (len pc k : Nat) (h : k ≤ len) (w : World) : (Instr.slice 22 (.slice p len pc) (some (.int .i64 (k : Int))) none none).run Try.prog w = .ok (.slice (loP p pc k) (len - k) (pc - k)) w := by
  have z54 := Try.sizeOf54
  have he : Try.prog.elem 22 = 54 := by kernel_rfl
  rw [run_slice_l (P := Try.prog) w 22 p len pc (by kernel_rfl) .i64 k (by omega) (by omega), he, z54]
  simp only [Result.andThen, sliced, Int.toNat_natCast, loP]
theorem slice_lh (p : Option Addr) (len pc k h : Nat) (h1 : k ≤ h) (h2 : h ≤ pc) (w : World) : (Instr.slice 22 (.slice p len pc) (some (.int .i64 (k : Int))) (some (.int .i64 (h : Int))) none).run Try.prog w = .ok (.slice (loP p pc k) (h - k) (pc - k)) w := by
  have z54 := Try.sizeOf54
  have he : Try.prog.elem 22 = 54 := by kernel_rfl
  rw [run_slice_lh (P := Try.prog) w 22 p len pc (by kernel_rfl) .i64 .i64 k h (by omega) (by omega) (by omega), he, z54]
  simp only [Result.andThen, sliced, Int.toNat_natCast, loP]
theorem ri_take {w : World} {p : Option Addr} {pc : Nat} {ins : List I6} (h : RI w p pc ins) (f : Nat) : RI w p pc (ins.take f) :=
  ⟨h.nl, by have := h.le; simp; omega, fun k hk => by
    simp at hk
    obtain ⟨b, o, h1, h2⟩ := h.get k (by omega)
    exact ⟨b, o, h1, by simpa using h2⟩⟩
theorem ri_drop {w : World} {p : Option Addr} {pc : Nat} {ins : List I6} (h : RI w p pc ins) (k : Nat) (hk : k ≤ ins.length) : RI w (loP p pc k) (pc - k) (ins.drop k) := by
  have hle := h.le
  refine ⟨fun e => ?_, by simp; omega, fun j hj => ?_⟩
  · unfold loP at e
    split at e
    · have := h.nl e; omega
    · cases p with
      | none => have := h.nl rfl; omega
      | some a => simp at e
  · simp at hj
    obtain ⟨b, o, h1, h2⟩ := h.get (k + j) (by omega)
    refine ⟨b, o + k * 6, ?_, ?_⟩
    · unfold loP
      rw [if_neg (by omega), h1]
      simp only [Option.map_some]
      rw [show (⟨b, o, none⟩ : Addr).add (k * 6) = ⟨b, o + k * 6, none⟩ from Go.WideShapes.add_plain _ _ _]
    · rw [show o + k * 6 + j * 6 = o + (k + j) * 6 by omega]
      simpa using h2
/-- the error of Replace -/
def repE (W R : Int) (ins : List I6) (out : List Int) (W2 R2 : Int) (ins2 : List I6) (out2 : List Int) (f n : Int) : Int :=
  if winE W R ins out f n = 0 then (if chkE W2 R2 ins2 out2 = 0 then (if W2 = W ∧ R2 = R then (if (ins.length : Int) - n + ins2.length ≤ 256 then 0 else 7) else 3) else chkE W2 R2 ins2 out2) else winE W R ins out f n
def repL (ins ins2 : List I6) (f n : Nat) : List I6 := ins.take f ++ (ins2 ++ ins.drop (f + n))
theorem win_zero {W R : Int} {ins : List I6} {out : List Int} {f n : Int} (h : winE W R ins out f n = 0) : chkE W R ins out = 0 ∧ 0 ≤ f ∧ 0 ≤ n ∧ f + n ≤ ins.length := by
  unfold winE at h
  split at h
  · rename_i h1
    split at h
    · rename_i h2; exact ⟨h1, h2⟩
    · omega
  · rename_i h1; exact absurd h h1
set_option maxRecDepth 100000 in
set_option maxHeartbeats 1000000 in
theorem rep26_1 (W R : Int) (p q : Option Addr) (pc qc : Nat) (ins : List I6) (out : List Int) (W2 R2 : Int) (p2 q2 : Option Addr) (pc2 qc2 : Nat) (ins2 : List I6) (out2 : List Int) (f n : Int) (w : World) (hi : RI w p pc ins) (ho : RO w q qc out) (hi2 : RI w p2 pc2 ins2) (ho2 : RO w q2 qc2 out2) (li : ins.length ≤ 300) (lo : out.length ≤ 20) (li2 : ins2.length ≤ 300) (lo2 : out2.length ≤ 20) (f2 : f ≤ 9223372036854775807) (n2 : n ≤ 9223372036854775807) (hx : winE W R ins out f n ≠ 0) : Calls Try.prog 26 #[.agg #[.int .i64 W, .int .i64 R, .slice p ins.length pc, .slice q out.length qc], .int .i64 f, .int .i64 n, .agg #[.int .i64 W2, .int .i64 R2, .slice p2 ins2.length pc2, .slice q2 out2.length qc2]] w (ZP (winE W R ins out f n) w) := by
  have hz := W4.new ((w.alloc (.cells #[.int .i64 W, .int .i64 R, .slice p ins.length pc, .slice q out.length qc] 25)).alloc (.cells #[.int .i64 W2, .int .i64 R2, .slice p2 ins2.length pc2, .slice q2 out2.length qc2] 25)) (.int .i64 0) (.int .i64 0) (.slice none 0 0) (.slice none 0 0)
  rw [sz1, sz1] at hz
  have b4 := (b4_new w (.int .i64 W) (.int .i64 R) (.slice p ins.length pc) (.slice q out.length qc) 25).keep (bk_alloc (bk_alloc (BK.refl _) (.cells #[.int .i64 W2, .int .i64 R2, .slice p2 ins2.length pc2, .slice q2 out2.length qc2] 25)) (.cells #[.int .i64 0, .int .i64 0, .slice none 0 0, .slice none 0 0] 25))
  have d4 := (b4_new (w.alloc (.cells #[.int .i64 W, .int .i64 R, .slice p ins.length pc, .slice q out.length qc] 25)) (.int .i64 W2) (.int .i64 R2) (.slice p2 ins2.length pc2) (.slice q2 out2.length qc2) 25).keep (bk_alloc (BK.refl _) (.cells #[.int .i64 0, .int .i64 0, .slice none 0 0, .slice none 0 0] 25))
  rw [sz1] at d4
  have k0 := bk_alloc (bk_alloc (bk_alloc (BK.refl w) (.cells #[.int .i64 W, .int .i64 R, .slice p ins.length pc, .slice q out.length qc] 25)) (.cells #[.int .i64 W2, .int .i64 R2, .slice p2 ins2.length pc2, .slice q2 out2.length qc2] 25)) (.cells #[.int .i64 0, .int .i64 0, .slice none 0 0, .slice none 0 0] 25)
  have C43 := Lib.hid (fun (wc : World) (hb : BK w wc) => win43 W R p q pc qc ins out wc (hi.keep hb) (ho.keep hb) (by omega) (by omega) f n f2 n2)
  have C30 := Lib.hid (fun (wc : World) (hb : BK w wc) => chk30 W2 R2 p2 q2 pc2 qc2 ins2 out2 wc (hi2.keep hb) (ho2.keep hb) (by omega) (by omega))
  have hn : (winE W R ins out f n != 0) = true := by simpa using hx
  clear hi ho hi2 ho2 hx
  generalize winE W R ins out f n = x at C43 hn ⊢
  go_enter Try.func26, Try.ntmps26
  go_upto_region 1 with (fail)
  generalize ((w.alloc (.cells #[.int .i64 W, .int .i64 R, .slice p ins.length pc, .slice q out.length qc] 25)).alloc (.cells #[.int .i64 W2, .int .i64 R2, .slice p2 ins2.length pc2, .slice q2 out2.length qc2] 25)).alloc (.cells #[.int .i64 0, .int .i64 0, .slice none 0 0, .slice none 0 0] 25) = w0 at b4 d4 hz k0 ⊢
  have HZ := Lib.hid hz
  have HB := Lib.hid b4
  have HD := Lib.hid d4
  have K0 := Lib.hid k0
  obtain ⟨c0, c1, c2, c3⟩ := b4
  clear hz k0 d4
  go_wp2_with fail
  refine (C43.out w0 K0.out).mono ?_
  rintro e w1 ⟨rfl, hb1⟩
  have K1 := Lib.hid (bk_tr K0.out hb1)
  have J1 := Lib.hid hb1
  obtain ⟨d0, d1, d2, d3⟩ := HD.out.keep hb1
  clear hb1 c0 c1 c2 c3
  obtain ⟨⟨z0, z1, z2, z3⟩, g0, g1, g2, g3⟩ := (HZ.out.keep J1.out).cells
  go_wp2_with fail
  refine bodyPost_ret (v := .tuple #[.agg #[.int .i64 0, .int .i64 0, .slice none 0 0, .slice none 0 0], .int .i64 x]) (by simp [results, Try.results26, go_sem, z0, z1, z2, z3]) rfl ⟨rfl, ?_⟩
  repeat (first | exact K1.out | refine bk_set ?_ _ _ (by show w.heap.size ≤ w.heap.size + 1 + 1; omega))
set_option maxRecDepth 100000 in
set_option maxHeartbeats 1000000 in
theorem rep26_2 (W R : Int) (p q : Option Addr) (pc qc : Nat) (ins : List I6) (out : List Int) (W2 R2 : Int) (p2 q2 : Option Addr) (pc2 qc2 : Nat) (ins2 : List I6) (out2 : List Int) (f n : Int) (w : World) (hi : RI w p pc ins) (ho : RO w q qc out) (hi2 : RI w p2 pc2 ins2) (ho2 : RO w q2 qc2 out2) (li : ins.length ≤ 300) (lo : out.length ≤ 20) (li2 : ins2.length ≤ 300) (lo2 : out2.length ≤ 20) (f2 : f ≤ 9223372036854775807) (n2 : n ≤ 9223372036854775807) (hw0 : winE W R ins out f n = 0) (hx : chkE W2 R2 ins2 out2 ≠ 0) : Calls Try.prog 26 #[.agg #[.int .i64 W, .int .i64 R, .slice p ins.length pc, .slice q out.length qc], .int .i64 f, .int .i64 n, .agg #[.int .i64 W2, .int .i64 R2, .slice p2 ins2.length pc2, .slice q2 out2.length qc2]] w (ZP (chkE W2 R2 ins2 out2) w) := by
  have hz := W4.new ((w.alloc (.cells #[.int .i64 W, .int .i64 R, .slice p ins.length pc, .slice q out.length qc] 25)).alloc (.cells #[.int .i64 W2, .int .i64 R2, .slice p2 ins2.length pc2, .slice q2 out2.length qc2] 25)) (.int .i64 0) (.int .i64 0) (.slice none 0 0) (.slice none 0 0)
  rw [sz1, sz1] at hz
  have b4 := (b4_new w (.int .i64 W) (.int .i64 R) (.slice p ins.length pc) (.slice q out.length qc) 25).keep (bk_alloc (bk_alloc (BK.refl _) (.cells #[.int .i64 W2, .int .i64 R2, .slice p2 ins2.length pc2, .slice q2 out2.length qc2] 25)) (.cells #[.int .i64 0, .int .i64 0, .slice none 0 0, .slice none 0 0] 25))
  have d4 := (b4_new (w.alloc (.cells #[.int .i64 W, .int .i64 R, .slice p ins.length pc, .slice q out.length qc] 25)) (.int .i64 W2) (.int .i64 R2) (.slice p2 ins2.length pc2) (.slice q2 out2.length qc2) 25).keep (bk_alloc (BK.refl _) (.cells #[.int .i64 0, .int .i64 0, .slice none 0 0, .slice none 0 0] 25))
  rw [sz1] at d4
  have k0 := bk_alloc (bk_alloc (bk_alloc (BK.refl w) (.cells #[.int .i64 W, .int .i64 R, .slice p ins.length pc, .slice q out.length qc] 25)) (.cells #[.int .i64 W2, .int .i64 R2, .slice p2 ins2.length pc2, .slice q2 out2.length qc2] 25)) (.cells #[.int .i64 0, .int .i64 0, .slice none 0 0, .slice none 0 0] 25)
  have C43 := Lib.hid (fun (wc : World) (hb : BK w wc) => win43 W R p q pc qc ins out wc (hi.keep hb) (ho.keep hb) (by omega) (by omega) f n f2 n2)
  have C30 := Lib.hid (fun (wc : World) (hb : BK w wc) => chk30 W2 R2 p2 q2 pc2 qc2 ins2 out2 wc (hi2.keep hb) (ho2.keep hb) (by omega) (by omega))
  have C43 := Lib.hid (fun (wc : World) (hb : BK w wc) => by have := C43.out wc hb; rw [hw0] at this; exact this)
  have hn : (chkE W2 R2 ins2 out2 != 0) = true := by simpa using hx
  clear hi ho hi2 ho2 hx hw0
  generalize chkE W2 R2 ins2 out2 = x at C30 hn ⊢
  go_enter Try.func26, Try.ntmps26
  go_upto_region 1 with (fail)
  generalize ((w.alloc (.cells #[.int .i64 W, .int .i64 R, .slice p ins.length pc, .slice q out.length qc] 25)).alloc (.cells #[.int .i64 W2, .int .i64 R2, .slice p2 ins2.length pc2, .slice q2 out2.length qc2] 25)).alloc (.cells #[.int .i64 0, .int .i64 0, .slice none 0 0, .slice none 0 0] 25) = w0 at b4 d4 hz k0 ⊢
  have HZ := Lib.hid hz
  have HB := Lib.hid b4
  have HD := Lib.hid d4
  have K0 := Lib.hid k0
  obtain ⟨c0, c1, c2, c3⟩ := b4
  clear hz k0 d4
  go_wp2_with fail
  refine (C43.out w0 K0.out).mono ?_
  rintro e w1 ⟨rfl, hb1⟩
  have K1 := Lib.hid (bk_tr K0.out hb1)
  have J1 := Lib.hid hb1
  obtain ⟨d0, d1, d2, d3⟩ := HD.out.keep hb1
  clear hb1 c0 c1 c2 c3
  go_wp2_with fail
  refine (C30.out w1 K1.out).mono ?_
  rintro e w2 ⟨rfl, hb2⟩
  have K2 := Lib.hid (bk_tr K1.out hb2)
  have J2 := Lib.hid (bk_tr J1.out hb2)
  clear hb2 d0 d1 d2 d3
  obtain ⟨⟨z0, z1, z2, z3⟩, g0, g1, g2, g3⟩ := (HZ.out.keep J2.out).cells
  go_wp2_with fail
  refine bodyPost_ret (v := .tuple #[.agg #[.int .i64 0, .int .i64 0, .slice none 0 0, .slice none 0 0], .int .i64 x]) (by simp [results, Try.results26, go_sem, z0, z1, z2, z3]) rfl ⟨rfl, ?_⟩
  repeat (first | exact K2.out | refine bk_set ?_ _ _ (by show w.heap.size ≤ w.heap.size + 1 + 1; omega))
set_option maxRecDepth 100000 in
set_option maxHeartbeats 1000000 in
theorem rep26_3a (W R : Int) (p q : Option Addr) (pc qc : Nat) (ins : List I6) (out : List Int) (W2 R2 : Int) (p2 q2 : Option Addr) (pc2 qc2 : Nat) (ins2 : List I6) (out2 : List Int) (f n : Int) (w : World) (hi : RI w p pc ins) (ho : RO w q qc out) (hi2 : RI w p2 pc2 ins2) (ho2 : RO w q2 qc2 out2) (li : ins.length ≤ 300) (lo : out.length ≤ 20) (li2 : ins2.length ≤ 300) (lo2 : out2.length ≤ 20) (f2 : f ≤ 9223372036854775807) (n2 : n ≤ 9223372036854775807) (hw0 : winE W R ins out f n = 0) (hc0 : chkE W2 R2 ins2 out2 = 0) (hx : ¬ W2 = W) : Calls Try.prog 26 #[.agg #[.int .i64 W, .int .i64 R, .slice p ins.length pc, .slice q out.length qc], .int .i64 f, .int .i64 n, .agg #[.int .i64 W2, .int .i64 R2, .slice p2 ins2.length pc2, .slice q2 out2.length qc2]] w (ZP 3 w) := by
  have hz := W4.new ((w.alloc (.cells #[.int .i64 W, .int .i64 R, .slice p ins.length pc, .slice q out.length qc] 25)).alloc (.cells #[.int .i64 W2, .int .i64 R2, .slice p2 ins2.length pc2, .slice q2 out2.length qc2] 25)) (.int .i64 0) (.int .i64 0) (.slice none 0 0) (.slice none 0 0)
  rw [sz1, sz1] at hz
  have b4 := (b4_new w (.int .i64 W) (.int .i64 R) (.slice p ins.length pc) (.slice q out.length qc) 25).keep (bk_alloc (bk_alloc (BK.refl _) (.cells #[.int .i64 W2, .int .i64 R2, .slice p2 ins2.length pc2, .slice q2 out2.length qc2] 25)) (.cells #[.int .i64 0, .int .i64 0, .slice none 0 0, .slice none 0 0] 25))
  have d4 := (b4_new (w.alloc (.cells #[.int .i64 W, .int .i64 R, .slice p ins.length pc, .slice q out.length qc] 25)) (.int .i64 W2) (.int .i64 R2) (.slice p2 ins2.length pc2) (.slice q2 out2.length qc2) 25).keep (bk_alloc (BK.refl _) (.cells #[.int .i64 0, .int .i64 0, .slice none 0 0, .slice none 0 0] 25))
  rw [sz1] at d4
  have k0 := bk_alloc (bk_alloc (bk_alloc (BK.refl w) (.cells #[.int .i64 W, .int .i64 R, .slice p ins.length pc, .slice q out.length qc] 25)) (.cells #[.int .i64 W2, .int .i64 R2, .slice p2 ins2.length pc2, .slice q2 out2.length qc2] 25)) (.cells #[.int .i64 0, .int .i64 0, .slice none 0 0, .slice none 0 0] 25)
  have C43 := Lib.hid (fun (wc : World) (hb : BK w wc) => win43 W R p q pc qc ins out wc (hi.keep hb) (ho.keep hb) (by omega) (by omega) f n f2 n2)
  have C30 := Lib.hid (fun (wc : World) (hb : BK w wc) => chk30 W2 R2 p2 q2 pc2 qc2 ins2 out2 wc (hi2.keep hb) (ho2.keep hb) (by omega) (by omega))
  have C43 := Lib.hid (fun (wc : World) (hb : BK w wc) => by have := C43.out wc hb; rw [hw0] at this; exact this)
  have C30 := Lib.hid (fun (wc : World) (hb : BK w wc) => by have := C30.out wc hb; rw [hc0] at this; exact this)
  have hn : (W2 != W) = true := by simpa using hx
  clear hi ho hi2 ho2 hx hw0 hc0
  go_enter Try.func26, Try.ntmps26
  go_upto_region 1 with (fail)
  generalize ((w.alloc (.cells #[.int .i64 W, .int .i64 R, .slice p ins.length pc, .slice q out.length qc] 25)).alloc (.cells #[.int .i64 W2, .int .i64 R2, .slice p2 ins2.length pc2, .slice q2 out2.length qc2] 25)).alloc (.cells #[.int .i64 0, .int .i64 0, .slice none 0 0, .slice none 0 0] 25) = w0 at b4 d4 hz k0 ⊢
  have HZ := Lib.hid hz
  have HB := Lib.hid b4
  have HD := Lib.hid d4
  have K0 := Lib.hid k0
  obtain ⟨c0, c1, c2, c3⟩ := b4
  clear hz k0 d4
  go_wp2_with fail
  refine (C43.out w0 K0.out).mono ?_
  rintro e w1 ⟨rfl, hb1⟩
  have K1 := Lib.hid (bk_tr K0.out hb1)
  have J1 := Lib.hid hb1
  obtain ⟨d0, d1, d2, d3⟩ := HD.out.keep hb1
  clear hb1 c0 c1 c2 c3
  go_wp2_with fail
  refine (C30.out w1 K1.out).mono ?_
  rintro e w2 ⟨rfl, hb2⟩
  have K2 := Lib.hid (bk_tr K1.out hb2)
  have J2 := Lib.hid (bk_tr J1.out hb2)
  clear hb2 d0 d1 d2 d3
  obtain ⟨⟨z0, z1, z2, z3⟩, g0, g1, g2, g3⟩ := (HZ.out.keep J2.out).cells
  obtain ⟨c0, c1, c2, c3⟩ := HB.out.keep J2.out
  obtain ⟨d0, d1, d2, d3⟩ := HD.out.keep J2.out
  go_wp2_with fail
  refine bodyPost_ret (v := .tuple #[.agg #[.int .i64 0, .int .i64 0, .slice none 0 0, .slice none 0 0], .int .i64 3]) (by simp [results, Try.results26, go_sem, z0, z1, z2, z3]) rfl ⟨rfl, ?_⟩
  repeat (first | exact K2.out | refine bk_set ?_ _ _ (by show w.heap.size ≤ w.heap.size + 1 + 1; omega))
set_option maxRecDepth 100000 in
set_option maxHeartbeats 1000000 in
theorem rep26_3b (W R : Int) (p q : Option Addr) (pc qc : Nat) (ins : List I6) (out : List Int) (W2 R2 : Int) (p2 q2 : Option Addr) (pc2 qc2 : Nat) (ins2 : List I6) (out2 : List Int) (f n : Int) (w : World) (hi : RI w p pc ins) (ho : RO w q qc out) (hi2 : RI w p2 pc2 ins2) (ho2 : RO w q2 qc2 out2) (li : ins.length ≤ 300) (lo : out.length ≤ 20) (li2 : ins2.length ≤ 300) (lo2 : out2.length ≤ 20) (f2 : f ≤ 9223372036854775807) (n2 : n ≤ 9223372036854775807) (hw0 : winE W R ins out f n = 0) (hc0 : chkE W2 R2 ins2 out2 = 0) (hx0 : W2 = W) (hx : ¬ R2 = R) : Calls Try.prog 26 #[.agg #[.int .i64 W, .int .i64 R, .slice p ins.length pc, .slice q out.length qc], .int .i64 f, .int .i64 n, .agg #[.int .i64 W2, .int .i64 R2, .slice p2 ins2.length pc2, .slice q2 out2.length qc2]] w (ZP 3 w) := by
  have hz := W4.new ((w.alloc (.cells #[.int .i64 W, .int .i64 R, .slice p ins.length pc, .slice q out.length qc] 25)).alloc (.cells #[.int .i64 W2, .int .i64 R2, .slice p2 ins2.length pc2, .slice q2 out2.length qc2] 25)) (.int .i64 0) (.int .i64 0) (.slice none 0 0) (.slice none 0 0)
  rw [sz1, sz1] at hz
  have b4 := (b4_new w (.int .i64 W) (.int .i64 R) (.slice p ins.length pc) (.slice q out.length qc) 25).keep (bk_alloc (bk_alloc (BK.refl _) (.cells #[.int .i64 W2, .int .i64 R2, .slice p2 ins2.length pc2, .slice q2 out2.length qc2] 25)) (.cells #[.int .i64 0, .int .i64 0, .slice none 0 0, .slice none 0 0] 25))
  have d4 := (b4_new (w.alloc (.cells #[.int .i64 W, .int .i64 R, .slice p ins.length pc, .slice q out.length qc] 25)) (.int .i64 W2) (.int .i64 R2) (.slice p2 ins2.length pc2) (.slice q2 out2.length qc2) 25).keep (bk_alloc (BK.refl _) (.cells #[.int .i64 0, .int .i64 0, .slice none 0 0, .slice none 0 0] 25))
  rw [sz1] at d4
  have k0 := bk_alloc (bk_alloc (bk_alloc (BK.refl w) (.cells #[.int .i64 W, .int .i64 R, .slice p ins.length pc, .slice q out.length qc] 25)) (.cells #[.int .i64 W2, .int .i64 R2, .slice p2 ins2.length pc2, .slice q2 out2.length qc2] 25)) (.cells #[.int .i64 0, .int .i64 0, .slice none 0 0, .slice none 0 0] 25)
  have C43 := Lib.hid (fun (wc : World) (hb : BK w wc) => win43 W R p q pc qc ins out wc (hi.keep hb) (ho.keep hb) (by omega) (by omega) f n f2 n2)
  have C30 := Lib.hid (fun (wc : World) (hb : BK w wc) => chk30 W2 R2 p2 q2 pc2 qc2 ins2 out2 wc (hi2.keep hb) (ho2.keep hb) (by omega) (by omega))
  have C43 := Lib.hid (fun (wc : World) (hb : BK w wc) => by have := C43.out wc hb; rw [hw0] at this; exact this)
  have C30 := Lib.hid (fun (wc : World) (hb : BK w wc) => by have := C30.out wc hb; rw [hc0] at this; exact this)
  have hn0 : (W2 != W) = false := by simpa using hx0
  have hn : (R2 != R) = true := by simpa using hx
  clear hi ho hi2 ho2 hx hw0 hc0 hx0
  go_enter Try.func26, Try.ntmps26
  go_upto_region 1 with (fail)
  generalize ((w.alloc (.cells #[.int .i64 W, .int .i64 R, .slice p ins.length pc, .slice q out.length qc] 25)).alloc (.cells #[.int .i64 W2, .int .i64 R2, .slice p2 ins2.length pc2, .slice q2 out2.length qc2] 25)).alloc (.cells #[.int .i64 0, .int .i64 0, .slice none 0 0, .slice none 0 0] 25) = w0 at b4 d4 hz k0 ⊢
  have HZ := Lib.hid hz
  have HB := Lib.hid b4
  have HD := Lib.hid d4
  have K0 := Lib.hid k0
  obtain ⟨c0, c1, c2, c3⟩ := b4
  clear hz k0 d4
  go_wp2_with fail
  refine (C43.out w0 K0.out).mono ?_
  rintro e w1 ⟨rfl, hb1⟩
  have K1 := Lib.hid (bk_tr K0.out hb1)
  have J1 := Lib.hid hb1
  obtain ⟨d0, d1, d2, d3⟩ := HD.out.keep hb1
  clear hb1 c0 c1 c2 c3
  go_wp2_with fail
  refine (C30.out w1 K1.out).mono ?_
  rintro e w2 ⟨rfl, hb2⟩
  have K2 := Lib.hid (bk_tr K1.out hb2)
  have J2 := Lib.hid (bk_tr J1.out hb2)
  clear hb2 d0 d1 d2 d3
  obtain ⟨⟨z0, z1, z2, z3⟩, g0, g1, g2, g3⟩ := (HZ.out.keep J2.out).cells
  obtain ⟨c0, c1, c2, c3⟩ := HB.out.keep J2.out
  obtain ⟨d0, d1, d2, d3⟩ := HD.out.keep J2.out
  go_wp2_with fail
  refine bodyPost_ret (v := .tuple #[.agg #[.int .i64 0, .int .i64 0, .slice none 0 0, .slice none 0 0], .int .i64 3]) (by simp [results, Try.results26, go_sem, z0, z1, z2, z3]) rfl ⟨rfl, ?_⟩
  repeat (first | exact K2.out | refine bk_set ?_ _ _ (by show w.heap.size ≤ w.heap.size + 1 + 1; omega))
set_option maxRecDepth 100000 in
set_option maxHeartbeats 1000000 in
theorem rep26_4 (W R : Int) (p q : Option Addr) (pc qc : Nat) (ins : List I6) (out : List Int) (W2 R2 : Int) (p2 q2 : Option Addr) (pc2 qc2 : Nat) (ins2 : List I6) (out2 : List Int) (f n : Int) (w : World) (hi : RI w p pc ins) (ho : RO w q qc out) (hi2 : RI w p2 pc2 ins2) (ho2 : RO w q2 qc2 out2) (li : ins.length ≤ 300) (lo : out.length ≤ 20) (li2 : ins2.length ≤ 300) (lo2 : out2.length ≤ 20) (f2 : f ≤ 9223372036854775807) (n2 : n ≤ 9223372036854775807) (hw0 : winE W R ins out f n = 0) (hc0 : chkE W2 R2 ins2 out2 = 0) (hx0 : W2 = W) (hx1 : R2 = R) (hx : 256 < (ins.length : Int) - n + ins2.length) : Calls Try.prog 26 #[.agg #[.int .i64 W, .int .i64 R, .slice p ins.length pc, .slice q out.length qc], .int .i64 f, .int .i64 n, .agg #[.int .i64 W2, .int .i64 R2, .slice p2 ins2.length pc2, .slice q2 out2.length qc2]] w (ZP 7 w) := by
  have hz := W4.new ((w.alloc (.cells #[.int .i64 W, .int .i64 R, .slice p ins.length pc, .slice q out.length qc] 25)).alloc (.cells #[.int .i64 W2, .int .i64 R2, .slice p2 ins2.length pc2, .slice q2 out2.length qc2] 25)) (.int .i64 0) (.int .i64 0) (.slice none 0 0) (.slice none 0 0)
  rw [sz1, sz1] at hz
  have b4 := (b4_new w (.int .i64 W) (.int .i64 R) (.slice p ins.length pc) (.slice q out.length qc) 25).keep (bk_alloc (bk_alloc (BK.refl _) (.cells #[.int .i64 W2, .int .i64 R2, .slice p2 ins2.length pc2, .slice q2 out2.length qc2] 25)) (.cells #[.int .i64 0, .int .i64 0, .slice none 0 0, .slice none 0 0] 25))
  have d4 := (b4_new (w.alloc (.cells #[.int .i64 W, .int .i64 R, .slice p ins.length pc, .slice q out.length qc] 25)) (.int .i64 W2) (.int .i64 R2) (.slice p2 ins2.length pc2) (.slice q2 out2.length qc2) 25).keep (bk_alloc (BK.refl _) (.cells #[.int .i64 0, .int .i64 0, .slice none 0 0, .slice none 0 0] 25))
  rw [sz1] at d4
  have k0 := bk_alloc (bk_alloc (bk_alloc (BK.refl w) (.cells #[.int .i64 W, .int .i64 R, .slice p ins.length pc, .slice q out.length qc] 25)) (.cells #[.int .i64 W2, .int .i64 R2, .slice p2 ins2.length pc2, .slice q2 out2.length qc2] 25)) (.cells #[.int .i64 0, .int .i64 0, .slice none 0 0, .slice none 0 0] 25)
  have C43 := Lib.hid (fun (wc : World) (hb : BK w wc) => win43 W R p q pc qc ins out wc (hi.keep hb) (ho.keep hb) (by omega) (by omega) f n f2 n2)
  have C30 := Lib.hid (fun (wc : World) (hb : BK w wc) => chk30 W2 R2 p2 q2 pc2 qc2 ins2 out2 wc (hi2.keep hb) (ho2.keep hb) (by omega) (by omega))
  have C43 := Lib.hid (fun (wc : World) (hb : BK w wc) => by have := C43.out wc hb; rw [hw0] at this; exact this)
  have C30 := Lib.hid (fun (wc : World) (hb : BK w wc) => by have := C30.out wc hb; rw [hc0] at this; exact this)
  have hn0 : (W2 != W) = false := by simpa using hx0
  have hn1 : (R2 != R) = false := by simpa using hx1
  obtain ⟨-, v1, v2, v3⟩ := win_zero hw0
  clear hi ho hi2 ho2 hw0 hc0 hx0 hx1
  go_enter Try.func26, Try.ntmps26
  go_upto_region 1 with (fail)
  generalize ((w.alloc (.cells #[.int .i64 W, .int .i64 R, .slice p ins.length pc, .slice q out.length qc] 25)).alloc (.cells #[.int .i64 W2, .int .i64 R2, .slice p2 ins2.length pc2, .slice q2 out2.length qc2] 25)).alloc (.cells #[.int .i64 0, .int .i64 0, .slice none 0 0, .slice none 0 0] 25) = w0 at b4 d4 hz k0 ⊢
  have HZ := Lib.hid hz
  have HB := Lib.hid b4
  have HD := Lib.hid d4
  have K0 := Lib.hid k0
  obtain ⟨c0, c1, c2, c3⟩ := b4
  clear hz k0 d4
  go_wp2_with fail
  refine (C43.out w0 K0.out).mono ?_
  rintro e w1 ⟨rfl, hb1⟩
  have K1 := Lib.hid (bk_tr K0.out hb1)
  have J1 := Lib.hid hb1
  obtain ⟨d0, d1, d2, d3⟩ := HD.out.keep hb1
  clear hb1 c0 c1 c2 c3
  go_wp2_with fail
  refine (C30.out w1 K1.out).mono ?_
  rintro e w2 ⟨rfl, hb2⟩
  have K2 := Lib.hid (bk_tr K1.out hb2)
  have J2 := Lib.hid (bk_tr J1.out hb2)
  clear hb2 d0 d1 d2 d3
  obtain ⟨⟨z0, z1, z2, z3⟩, g0, g1, g2, g3⟩ := (HZ.out.keep J2.out).cells
  obtain ⟨c0, c1, c2, c3⟩ := HB.out.keep J2.out
  obtain ⟨d0, d1, d2, d3⟩ := HD.out.keep J2.out
  go_wp2_with fail
  refine bodyPost_ret (v := .tuple #[.agg #[.int .i64 0, .int .i64 0, .slice none 0 0, .slice none 0 0], .int .i64 7]) (by simp [results, Try.results26, go_sem, z0, z1, z2, z3]) rfl ⟨rfl, ?_⟩
  repeat (first | exact K2.out | refine bk_set ?_ _ _ (by show w.heap.size ≤ w.heap.size + 1 + 1; omega))
set_option maxRecDepth 100000 in
set_option maxHeartbeats 1000000 in
theorem rep27_1 (W R : Int) (p q : Option Addr) (pc qc : Nat) (ins : List I6) (out : List Int) (W2 R2 : Int) (p2 q2 : Option Addr) (pc2 qc2 : Nat) (ins2 : List I6) (out2 : List Int) (f n : Int) (w : World) (hi : RI w p pc ins) (ho : RO w q qc out) (hi2 : RI w p2 pc2 ins2) (ho2 : RO w q2 qc2 out2) (li : ins.length ≤ 300) (lo : out.length ≤ 20) (li2 : ins2.length ≤ 300) (lo2 : out2.length ≤ 20) (f2 : f ≤ 9223372036854775807) (n2 : n ≤ 9223372036854775807) (hx : winE W R ins out f n ≠ 0) : Calls Try.prog 27 #[.agg #[.int .i64 W, .int .i64 R, .slice p ins.length pc, .slice q out.length qc], .int .i64 f, .int .i64 n, .agg #[.int .i64 W2, .int .i64 R2, .slice p2 ins2.length pc2, .slice q2 out2.length qc2]] w (ZP (winE W R ins out f n) w) := by
  have hz := W4.new ((w.alloc (.cells #[.int .i64 W, .int .i64 R, .slice p ins.length pc, .slice q out.length qc] 25)).alloc (.cells #[.int .i64 W2, .int .i64 R2, .slice p2 ins2.length pc2, .slice q2 out2.length qc2] 25)) (.int .i64 0) (.int .i64 0) (.slice none 0 0) (.slice none 0 0)
  rw [sz1, sz1] at hz
  have b4 := (b4_new w (.int .i64 W) (.int .i64 R) (.slice p ins.length pc) (.slice q out.length qc) 25).keep (bk_alloc (bk_alloc (BK.refl _) (.cells #[.int .i64 W2, .int .i64 R2, .slice p2 ins2.length pc2, .slice q2 out2.length qc2] 25)) (.cells #[.int .i64 0, .int .i64 0, .slice none 0 0, .slice none 0 0] 25))
  have d4 := (b4_new (w.alloc (.cells #[.int .i64 W, .int .i64 R, .slice p ins.length pc, .slice q out.length qc] 25)) (.int .i64 W2) (.int .i64 R2) (.slice p2 ins2.length pc2) (.slice q2 out2.length qc2) 25).keep (bk_alloc (BK.refl _) (.cells #[.int .i64 0, .int .i64 0, .slice none 0 0, .slice none 0 0] 25))
  rw [sz1] at d4
  have k0 := bk_alloc (bk_alloc (bk_alloc (BK.refl w) (.cells #[.int .i64 W, .int .i64 R, .slice p ins.length pc, .slice q out.length qc] 25)) (.cells #[.int .i64 W2, .int .i64 R2, .slice p2 ins2.length pc2, .slice q2 out2.length qc2] 25)) (.cells #[.int .i64 0, .int .i64 0, .slice none 0 0, .slice none 0 0] 25)
  have C43 := Lib.hid (fun (wc : World) (hb : BK w wc) => win46 W R p q pc qc ins out wc (hi.keep hb) (ho.keep hb) (by omega) (by omega) f n f2 n2)
  have C30 := Lib.hid (fun (wc : World) (hb : BK w wc) => rchk28 W2 R2 p2 q2 pc2 qc2 ins2 out2 wc (hi2.keep hb) (ho2.keep hb) (by omega) (by omega))
  have hn : (winE W R ins out f n != 0) = true := by simpa using hx
  clear hi ho hi2 ho2 hx
  generalize winE W R ins out f n = x at C43 hn ⊢
  go_enter Try.func27, Try.ntmps27
  go_upto_region 1 with (fail)
  generalize ((w.alloc (.cells #[.int .i64 W, .int .i64 R, .slice p ins.length pc, .slice q out.length qc] 25)).alloc (.cells #[.int .i64 W2, .int .i64 R2, .slice p2 ins2.length pc2, .slice q2 out2.length qc2] 25)).alloc (.cells #[.int .i64 0, .int .i64 0, .slice none 0 0, .slice none 0 0] 25) = w0 at b4 d4 hz k0 ⊢
  have HZ := Lib.hid hz
  have HB := Lib.hid b4
  have HD := Lib.hid d4
  have K0 := Lib.hid k0
  obtain ⟨c0, c1, c2, c3⟩ := b4
  clear hz k0 d4
  go_wp2_with fail
  refine (C43.out w0 K0.out).mono ?_
  rintro e w1 ⟨rfl, hb1⟩
  have K1 := Lib.hid (bk_tr K0.out hb1)
  have J1 := Lib.hid hb1
  obtain ⟨d0, d1, d2, d3⟩ := HD.out.keep hb1
  clear hb1 c0 c1 c2 c3
  obtain ⟨⟨z0, z1, z2, z3⟩, g0, g1, g2, g3⟩ := (HZ.out.keep J1.out).cells
  go_wp2_with fail
  refine bodyPost_ret (v := .tuple #[.agg #[.int .i64 0, .int .i64 0, .slice none 0 0, .slice none 0 0], .int .i64 x]) (by simp [results, Try.results27, go_sem, z0, z1, z2, z3]) rfl ⟨rfl, ?_⟩
  repeat (first | exact K1.out | refine bk_set ?_ _ _ (by show w.heap.size ≤ w.heap.size + 1 + 1; omega))
set_option maxRecDepth 100000 in
set_option maxHeartbeats 1000000 in
theorem rep27_2 (W R : Int) (p q : Option Addr) (pc qc : Nat) (ins : List I6) (out : List Int) (W2 R2 : Int) (p2 q2 : Option Addr) (pc2 qc2 : Nat) (ins2 : List I6) (out2 : List Int) (f n : Int) (w : World) (hi : RI w p pc ins) (ho : RO w q qc out) (hi2 : RI w p2 pc2 ins2) (ho2 : RO w q2 qc2 out2) (li : ins.length ≤ 300) (lo : out.length ≤ 20) (li2 : ins2.length ≤ 300) (lo2 : out2.length ≤ 20) (f2 : f ≤ 9223372036854775807) (n2 : n ≤ 9223372036854775807) (hw0 : winE W R ins out f n = 0) (hx : chkE W2 R2 ins2 out2 ≠ 0) : Calls Try.prog 27 #[.agg #[.int .i64 W, .int .i64 R, .slice p ins.length pc, .slice q out.length qc], .int .i64 f, .int .i64 n, .agg #[.int .i64 W2, .int .i64 R2, .slice p2 ins2.length pc2, .slice q2 out2.length qc2]] w (ZP (chkE W2 R2 ins2 out2) w) := by
  have hz := W4.new ((w.alloc (.cells #[.int .i64 W, .int .i64 R, .slice p ins.length pc, .slice q out.length qc] 25)).alloc (.cells #[.int .i64 W2, .int .i64 R2, .slice p2 ins2.length pc2, .slice q2 out2.length qc2] 25)) (.int .i64 0) (.int .i64 0) (.slice none 0 0) (.slice none 0 0)
  rw [sz1, sz1] at hz
  have b4 := (b4_new w (.int .i64 W) (.int .i64 R) (.slice p ins.length pc) (.slice q out.length qc) 25).keep (bk_alloc (bk_alloc (BK.refl _) (.cells #[.int .i64 W2, .int .i64 R2, .slice p2 ins2.length pc2, .slice q2 out2.length qc2] 25)) (.cells #[.int .i64 0, .int .i64 0, .slice none 0 0, .slice none 0 0] 25))
  have d4 := (b4_new (w.alloc (.cells #[.int .i64 W, .int .i64 R, .slice p ins.length pc, .slice q out.length qc] 25)) (.int .i64 W2) (.int .i64 R2) (.slice p2 ins2.length pc2) (.slice q2 out2.length qc2) 25).keep (bk_alloc (BK.refl _) (.cells #[.int .i64 0, .int .i64 0, .slice none 0 0, .slice none 0 0] 25))
  rw [sz1] at d4
  have k0 := bk_alloc (bk_alloc (bk_alloc (BK.refl w) (.cells #[.int .i64 W, .int .i64 R, .slice p ins.length pc, .slice q out.length qc] 25)) (.cells #[.int .i64 W2, .int .i64 R2, .slice p2 ins2.length pc2, .slice q2 out2.length qc2] 25)) (.cells #[.int .i64 0, .int .i64 0, .slice none 0 0, .slice none 0 0] 25)
  have C43 := Lib.hid (fun (wc : World) (hb : BK w wc) => win46 W R p q pc qc ins out wc (hi.keep hb) (ho.keep hb) (by omega) (by omega) f n f2 n2)
  have C30 := Lib.hid (fun (wc : World) (hb : BK w wc) => rchk28 W2 R2 p2 q2 pc2 qc2 ins2 out2 wc (hi2.keep hb) (ho2.keep hb) (by omega) (by omega))
  have C43 := Lib.hid (fun (wc : World) (hb : BK w wc) => by have := C43.out wc hb; rw [hw0] at this; exact this)
  have hn : (chkE W2 R2 ins2 out2 != 0) = true := by simpa using hx
  clear hi ho hi2 ho2 hx hw0
  generalize chkE W2 R2 ins2 out2 = x at C30 hn ⊢
  go_enter Try.func27, Try.ntmps27
  go_upto_region 1 with (fail)
  generalize ((w.alloc (.cells #[.int .i64 W, .int .i64 R, .slice p ins.length pc, .slice q out.length qc] 25)).alloc (.cells #[.int .i64 W2, .int .i64 R2, .slice p2 ins2.length pc2, .slice q2 out2.length qc2] 25)).alloc (.cells #[.int .i64 0, .int .i64 0, .slice none 0 0, .slice none 0 0] 25) = w0 at b4 d4 hz k0 ⊢
  have HZ := Lib.hid hz
  have HB := Lib.hid b4
  have HD := Lib.hid d4
  have K0 := Lib.hid k0
  obtain ⟨c0, c1, c2, c3⟩ := b4
  clear hz k0 d4
  go_wp2_with fail
  refine (C43.out w0 K0.out).mono ?_
  rintro e w1 ⟨rfl, hb1⟩
  have K1 := Lib.hid (bk_tr K0.out hb1)
  have J1 := Lib.hid hb1
  obtain ⟨d0, d1, d2, d3⟩ := HD.out.keep hb1
  clear hb1 c0 c1 c2 c3
  go_wp2_with fail
  refine (C30.out w1 K1.out).mono ?_
  rintro e w2 ⟨rfl, hb2⟩
  have K2 := Lib.hid (bk_tr K1.out hb2)
  have J2 := Lib.hid (bk_tr J1.out hb2)
  clear hb2 d0 d1 d2 d3
  obtain ⟨⟨z0, z1, z2, z3⟩, g0, g1, g2, g3⟩ := (HZ.out.keep J2.out).cells
  go_wp2_with fail
  refine bodyPost_ret (v := .tuple #[.agg #[.int .i64 0, .int .i64 0, .slice none 0 0, .slice none 0 0], .int .i64 x]) (by simp [results, Try.results27, go_sem, z0, z1, z2, z3]) rfl ⟨rfl, ?_⟩
  repeat (first | exact K2.out | refine bk_set ?_ _ _ (by show w.heap.size ≤ w.heap.size + 1 + 1; omega))
set_option maxRecDepth 100000 in
set_option maxHeartbeats 1000000 in
theorem rep27_3a (W R : Int) (p q : Option Addr) (pc qc : Nat) (ins : List I6) (out : List Int) (W2 R2 : Int) (p2 q2 : Option Addr) (pc2 qc2 : Nat) (ins2 : List I6) (out2 : List Int) (f n : Int) (w : World) (hi : RI w p pc ins) (ho : RO w q qc out) (hi2 : RI w p2 pc2 ins2) (ho2 : RO w q2 qc2 out2) (li : ins.length ≤ 300) (lo : out.length ≤ 20) (li2 : ins2.length ≤ 300) (lo2 : out2.length ≤ 20) (f2 : f ≤ 9223372036854775807) (n2 : n ≤ 9223372036854775807) (hw0 : winE W R ins out f n = 0) (hc0 : chkE W2 R2 ins2 out2 = 0) (hx : ¬ W2 = W) : Calls Try.prog 27 #[.agg #[.int .i64 W, .int .i64 R, .slice p ins.length pc, .slice q out.length qc], .int .i64 f, .int .i64 n, .agg #[.int .i64 W2, .int .i64 R2, .slice p2 ins2.length pc2, .slice q2 out2.length qc2]] w (ZP 3 w) := by
  have hz := W4.new ((w.alloc (.cells #[.int .i64 W, .int .i64 R, .slice p ins.length pc, .slice q out.length qc] 25)).alloc (.cells #[.int .i64 W2, .int .i64 R2, .slice p2 ins2.length pc2, .slice q2 out2.length qc2] 25)) (.int .i64 0) (.int .i64 0) (.slice none 0 0) (.slice none 0 0)
  rw [sz1, sz1] at hz
  have b4 := (b4_new w (.int .i64 W) (.int .i64 R) (.slice p ins.length pc) (.slice q out.length qc) 25).keep (bk_alloc (bk_alloc (BK.refl _) (.cells #[.int .i64 W2, .int .i64 R2, .slice p2 ins2.length pc2, .slice q2 out2.length qc2] 25)) (.cells #[.int .i64 0, .int .i64 0, .slice none 0 0, .slice none 0 0] 25))
  have d4 := (b4_new (w.alloc (.cells #[.int .i64 W, .int .i64 R, .slice p ins.length pc, .slice q out.length qc] 25)) (.int .i64 W2) (.int .i64 R2) (.slice p2 ins2.length pc2) (.slice q2 out2.length qc2) 25).keep (bk_alloc (BK.refl _) (.cells #[.int .i64 0, .int .i64 0, .slice none 0 0, .slice none 0 0] 25))
  rw [sz1] at d4
  have k0 := bk_alloc (bk_alloc (bk_alloc (BK.refl w) (.cells #[.int .i64 W, .int .i64 R, .slice p ins.length pc, .slice q out.length qc] 25)) (.cells #[.int .i64 W2, .int .i64 R2, .slice p2 ins2.length pc2, .slice q2 out2.length qc2] 25)) (.cells #[.int .i64 0, .int .i64 0, .slice none 0 0, .slice none 0 0] 25)
  have C43 := Lib.hid (fun (wc : World) (hb : BK w wc) => win46 W R p q pc qc ins out wc (hi.keep hb) (ho.keep hb) (by omega) (by omega) f n f2 n2)
  have C30 := Lib.hid (fun (wc : World) (hb : BK w wc) => rchk28 W2 R2 p2 q2 pc2 qc2 ins2 out2 wc (hi2.keep hb) (ho2.keep hb) (by omega) (by omega))
  have C43 := Lib.hid (fun (wc : World) (hb : BK w wc) => by have := C43.out wc hb; rw [hw0] at this; exact this)
  have C30 := Lib.hid (fun (wc : World) (hb : BK w wc) => by have := C30.out wc hb; rw [hc0] at this; exact this)
  have hn : (W2 != W) = true := by simpa using hx
  clear hi ho hi2 ho2 hx hw0 hc0
  go_enter Try.func27, Try.ntmps27
  go_upto_region 1 with (fail)
  generalize ((w.alloc (.cells #[.int .i64 W, .int .i64 R, .slice p ins.length pc, .slice q out.length qc] 25)).alloc (.cells #[.int .i64 W2, .int .i64 R2, .slice p2 ins2.length pc2, .slice q2 out2.length qc2] 25)).alloc (.cells #[.int .i64 0, .int .i64 0, .slice none 0 0, .slice none 0 0] 25) = w0 at b4 d4 hz k0 ⊢
  have HZ := Lib.hid hz
  have HB := Lib.hid b4
  have HD := Lib.hid d4
  have K0 := Lib.hid k0
  obtain ⟨c0, c1, c2, c3⟩ := b4
  clear hz k0 d4
  go_wp2_with fail
  refine (C43.out w0 K0.out).mono ?_
  rintro e w1 ⟨rfl, hb1⟩
  have K1 := Lib.hid (bk_tr K0.out hb1)
  have J1 := Lib.hid hb1
  obtain ⟨d0, d1, d2, d3⟩ := HD.out.keep hb1
  clear hb1 c0 c1 c2 c3
  go_wp2_with fail
  refine (C30.out w1 K1.out).mono ?_
  rintro e w2 ⟨rfl, hb2⟩
  have K2 := Lib.hid (bk_tr K1.out hb2)
  have J2 := Lib.hid (bk_tr J1.out hb2)
  clear hb2 d0 d1 d2 d3
  obtain ⟨⟨z0, z1, z2, z3⟩, g0, g1, g2, g3⟩ := (HZ.out.keep J2.out).cells
  obtain ⟨c0, c1, c2, c3⟩ := HB.out.keep J2.out
  obtain ⟨d0, d1, d2, d3⟩ := HD.out.keep J2.out
  go_wp2_with fail
  refine bodyPost_ret (v := .tuple #[.agg #[.int .i64 0, .int .i64 0, .slice none 0 0, .slice none 0 0], .int .i64 3]) (by simp [results, Try.results27, go_sem, z0, z1, z2, z3]) rfl ⟨rfl, ?_⟩
  repeat (first | exact K2.out | refine bk_set ?_ _ _ (by show w.heap.size ≤ w.heap.size + 1 + 1; omega))
set_option maxRecDepth 100000 in
set_option maxHeartbeats 1000000 in
theorem rep27_3b (W R : Int) (p q : Option Addr) (pc qc : Nat) (ins : List I6) (out : List Int) (W2 R2 : Int) (p2 q2 : Option Addr) (pc2 qc2 : Nat) (ins2 : List I6) (out2 : List Int) (f n : Int) (w : World) (hi : RI w p pc ins) (ho : RO w q qc out) (hi2 : RI w p2 pc2 ins2) (ho2 : RO w q2 qc2 out2) (li : ins.length ≤ 300) (lo : out.length ≤ 20) (li2 : ins2.length ≤ 300) (lo2 : out2.length ≤ 20) (f2 : f ≤ 9223372036854775807) (n2 : n ≤ 9223372036854775807) (hw0 : winE W R ins out f n = 0) (hc0 : chkE W2 R2 ins2 out2 = 0) (hx0 : W2 = W) (hx : ¬ R2 = R) : Calls Try.prog 27 #[.agg #[.int .i64 W, .int .i64 R, .slice p ins.length pc, .slice q out.length qc], .int .i64 f, .int .i64 n, .agg #[.int .i64 W2, .int .i64 R2, .slice p2 ins2.length pc2, .slice q2 out2.length qc2]] w (ZP 3 w) := by
  have hz := W4.new ((w.alloc (.cells #[.int .i64 W, .int .i64 R, .slice p ins.length pc, .slice q out.length qc] 25)).alloc (.cells #[.int .i64 W2, .int .i64 R2, .slice p2 ins2.length pc2, .slice q2 out2.length qc2] 25)) (.int .i64 0) (.int .i64 0) (.slice none 0 0) (.slice none 0 0)
  rw [sz1, sz1] at hz
  have b4 := (b4_new w (.int .i64 W) (.int .i64 R) (.slice p ins.length pc) (.slice q out.length qc) 25).keep (bk_alloc (bk_alloc (BK.refl _) (.cells #[.int .i64 W2, .int .i64 R2, .slice p2 ins2.length pc2, .slice q2 out2.length qc2] 25)) (.cells #[.int .i64 0, .int .i64 0, .slice none 0 0, .slice none 0 0] 25))
  have d4 := (b4_new (w.alloc (.cells #[.int .i64 W, .int .i64 R, .slice p ins.length pc, .slice q out.length qc] 25)) (.int .i64 W2) (.int .i64 R2) (.slice p2 ins2.length pc2) (.slice q2 out2.length qc2) 25).keep (bk_alloc (BK.refl _) (.cells #[.int .i64 0, .int .i64 0, .slice none 0 0, .slice none 0 0] 25))
  rw [sz1] at d4
  have k0 := bk_alloc (bk_alloc (bk_alloc (BK.refl w) (.cells #[.int .i64 W, .int .i64 R, .slice p ins.length pc, .slice q out.length qc] 25)) (.cells #[.int .i64 W2, .int .i64 R2, .slice p2 ins2.length pc2, .slice q2 out2.length qc2] 25)) (.cells #[.int .i64 0, .int .i64 0, .slice none 0 0, .slice none 0 0] 25)
  have C43 := Lib.hid (fun (wc : World) (hb : BK w wc) => win46 W R p q pc qc ins out wc (hi.keep hb) (ho.keep hb) (by omega) (by omega) f n f2 n2)
  have C30 := Lib.hid (fun (wc : World) (hb : BK w wc) => rchk28 W2 R2 p2 q2 pc2 qc2 ins2 out2 wc (hi2.keep hb) (ho2.keep hb) (by omega) (by omega))
  have C43 := Lib.hid (fun (wc : World) (hb : BK w wc) => by have := C43.out wc hb; rw [hw0] at this; exact this)
  have C30 := Lib.hid (fun (wc : World) (hb : BK w wc) => by have := C30.out wc hb; rw [hc0] at this; exact this)
  have hn0 : (W2 != W) = false := by simpa using hx0
  have hn : (R2 != R) = true := by simpa using hx
  clear hi ho hi2 ho2 hx hw0 hc0 hx0
  go_enter Try.func27, Try.ntmps27
  go_upto_region 1 with (fail)
  generalize ((w.alloc (.cells #[.int .i64 W, .int .i64 R, .slice p ins.length pc, .slice q out.length qc] 25)).alloc (.cells #[.int .i64 W2, .int .i64 R2, .slice p2 ins2.length pc2, .slice q2 out2.length qc2] 25)).alloc (.cells #[.int .i64 0, .int .i64 0, .slice none 0 0, .slice none 0 0] 25) = w0 at b4 d4 hz k0 ⊢
  have HZ := Lib.hid hz
  have HB := Lib.hid b4
  have HD := Lib.hid d4
  have K0 := Lib.hid k0
  obtain ⟨c0, c1, c2, c3⟩ := b4
  clear hz k0 d4
  go_wp2_with fail
  refine (C43.out w0 K0.out).mono ?_
  rintro e w1 ⟨rfl, hb1⟩
  have K1 := Lib.hid (bk_tr K0.out hb1)
  have J1 := Lib.hid hb1
  obtain ⟨d0, d1, d2, d3⟩ := HD.out.keep hb1
  clear hb1 c0 c1 c2 c3
  go_wp2_with fail
  refine (C30.out w1 K1.out).mono ?_
  rintro e w2 ⟨rfl, hb2⟩
  have K2 := Lib.hid (bk_tr K1.out hb2)
  have J2 := Lib.hid (bk_tr J1.out hb2)
  clear hb2 d0 d1 d2 d3
  obtain ⟨⟨z0, z1, z2, z3⟩, g0, g1, g2, g3⟩ := (HZ.out.keep J2.out).cells
  obtain ⟨c0, c1, c2, c3⟩ := HB.out.keep J2.out
  obtain ⟨d0, d1, d2, d3⟩ := HD.out.keep J2.out
  go_wp2_with fail
  refine bodyPost_ret (v := .tuple #[.agg #[.int .i64 0, .int .i64 0, .slice none 0 0, .slice none 0 0], .int .i64 3]) (by simp [results, Try.results27, go_sem, z0, z1, z2, z3]) rfl ⟨rfl, ?_⟩
  repeat (first | exact K2.out | refine bk_set ?_ _ _ (by show w.heap.size ≤ w.heap.size + 1 + 1; omega))
set_option maxRecDepth 100000 in
set_option maxHeartbeats 1000000 in
theorem rep27_4 (W R : Int) (p q : Option Addr) (pc qc : Nat) (ins : List I6) (out : List Int) (W2 R2 : Int) (p2 q2 : Option Addr) (pc2 qc2 : Nat) (ins2 : List I6) (out2 : List Int) (f n : Int) (w : World) (hi : RI w p pc ins) (ho : RO w q qc out) (hi2 : RI w p2 pc2 ins2) (ho2 : RO w q2 qc2 out2) (li : ins.length ≤ 300) (lo : out.length ≤ 20) (li2 : ins2.length ≤ 300) (lo2 : out2.length ≤ 20) (f2 : f ≤ 9223372036854775807) (n2 : n ≤ 9223372036854775807) (hw0 : winE W R ins out f n = 0) (hc0 : chkE W2 R2 ins2 out2 = 0) (hx0 : W2 = W) (hx1 : R2 = R) (hx : 256 < (ins.length : Int) - n + ins2.length) : Calls Try.prog 27 #[.agg #[.int .i64 W, .int .i64 R, .slice p ins.length pc, .slice q out.length qc], .int .i64 f, .int .i64 n, .agg #[.int .i64 W2, .int .i64 R2, .slice p2 ins2.length pc2, .slice q2 out2.length qc2]] w (ZP 7 w) := by
  have hz := W4.new ((w.alloc (.cells #[.int .i64 W, .int .i64 R, .slice p ins.length pc, .slice q out.length qc] 25)).alloc (.cells #[.int .i64 W2, .int .i64 R2, .slice p2 ins2.length pc2, .slice q2 out2.length qc2] 25)) (.int .i64 0) (.int .i64 0) (.slice none 0 0) (.slice none 0 0)
  rw [sz1, sz1] at hz
  have b4 := (b4_new w (.int .i64 W) (.int .i64 R) (.slice p ins.length pc) (.slice q out.length qc) 25).keep (bk_alloc (bk_alloc (BK.refl _) (.cells #[.int .i64 W2, .int .i64 R2, .slice p2 ins2.length pc2, .slice q2 out2.length qc2] 25)) (.cells #[.int .i64 0, .int .i64 0, .slice none 0 0, .slice none 0 0] 25))
  have d4 := (b4_new (w.alloc (.cells #[.int .i64 W, .int .i64 R, .slice p ins.length pc, .slice q out.length qc] 25)) (.int .i64 W2) (.int .i64 R2) (.slice p2 ins2.length pc2) (.slice q2 out2.length qc2) 25).keep (bk_alloc (BK.refl _) (.cells #[.int .i64 0, .int .i64 0, .slice none 0 0, .slice none 0 0] 25))
  rw [sz1] at d4
  have k0 := bk_alloc (bk_alloc (bk_alloc (BK.refl w) (.cells #[.int .i64 W, .int .i64 R, .slice p ins.length pc, .slice q out.length qc] 25)) (.cells #[.int .i64 W2, .int .i64 R2, .slice p2 ins2.length pc2, .slice q2 out2.length qc2] 25)) (.cells #[.int .i64 0, .int .i64 0, .slice none 0 0, .slice none 0 0] 25)
  have C43 := Lib.hid (fun (wc : World) (hb : BK w wc) => win46 W R p q pc qc ins out wc (hi.keep hb) (ho.keep hb) (by omega) (by omega) f n f2 n2)
  have C30 := Lib.hid (fun (wc : World) (hb : BK w wc) => rchk28 W2 R2 p2 q2 pc2 qc2 ins2 out2 wc (hi2.keep hb) (ho2.keep hb) (by omega) (by omega))
  have C43 := Lib.hid (fun (wc : World) (hb : BK w wc) => by have := C43.out wc hb; rw [hw0] at this; exact this)
  have C30 := Lib.hid (fun (wc : World) (hb : BK w wc) => by have := C30.out wc hb; rw [hc0] at this; exact this)
  have hn0 : (W2 != W) = false := by simpa using hx0
  have hn1 : (R2 != R) = false := by simpa using hx1
  obtain ⟨-, v1, v2, v3⟩ := win_zero hw0
  clear hi ho hi2 ho2 hw0 hc0 hx0 hx1
  go_enter Try.func27, Try.ntmps27
  go_upto_region 1 with (fail)
  generalize ((w.alloc (.cells #[.int .i64 W, .int .i64 R, .slice p ins.length pc, .slice q out.length qc] 25)).alloc (.cells #[.int .i64 W2, .int .i64 R2, .slice p2 ins2.length pc2, .slice q2 out2.length qc2] 25)).alloc (.cells #[.int .i64 0, .int .i64 0, .slice none 0 0, .slice none 0 0] 25) = w0 at b4 d4 hz k0 ⊢
  have HZ := Lib.hid hz
  have HB := Lib.hid b4
  have HD := Lib.hid d4
  have K0 := Lib.hid k0
  obtain ⟨c0, c1, c2, c3⟩ := b4
  clear hz k0 d4
  go_wp2_with fail
  refine (C43.out w0 K0.out).mono ?_
  rintro e w1 ⟨rfl, hb1⟩
  have K1 := Lib.hid (bk_tr K0.out hb1)
  have J1 := Lib.hid hb1
  obtain ⟨d0, d1, d2, d3⟩ := HD.out.keep hb1
  clear hb1 c0 c1 c2 c3
  go_wp2_with fail
  refine (C30.out w1 K1.out).mono ?_
  rintro e w2 ⟨rfl, hb2⟩
  have K2 := Lib.hid (bk_tr K1.out hb2)
  have J2 := Lib.hid (bk_tr J1.out hb2)
  clear hb2 d0 d1 d2 d3
  obtain ⟨⟨z0, z1, z2, z3⟩, g0, g1, g2, g3⟩ := (HZ.out.keep J2.out).cells
  obtain ⟨c0, c1, c2, c3⟩ := HB.out.keep J2.out
  obtain ⟨d0, d1, d2, d3⟩ := HD.out.keep J2.out
  go_wp2_with fail
  refine bodyPost_ret (v := .tuple #[.agg #[.int .i64 0, .int .i64 0, .slice none 0 0, .slice none 0 0], .int .i64 7]) (by simp [results, Try.results27, go_sem, z0, z1, z2, z3]) rfl ⟨rfl, ?_⟩
  repeat (first | exact K2.out | refine bk_set ?_ _ _ (by show w.heap.size ≤ w.heap.size + 1 + 1; omega))
end Go.Proofs.Ytjmmaaphadeokaa
