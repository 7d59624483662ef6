/- The reader: instructions. -/
import Derived.Test.YtneidfbgdgegjaaGreatDoorRI
import Derived.Test.YtneidfbgdgegjaaGreatDoorLD
namespace Go.Proofs.YtneidfbgdgegjaaGreatDoor
open Go.RowKit
set_option linter.unusedVariables false
set_option linter.unusedSimpArgs false
/-- an instruction's block -/
def I6b (w : World) (b : Nat) (i : I6) : Prop := w.heap[b]? = some (.cells #[.int .i64 i.op, .int .i64 i.dst, .int .i64 i.a, .int .i64 i.b, .int .i64 i.c, .int .u64 i.imm] 42 (0, 0))
theorem I6b.st {F : Nat → Prop} {w w' : World} {b : Nat} {i : I6} (h : I6b w b i) (s : St F w w') (hn : ¬ F b) : I6b w' b i := st_blk h s hn
theorem I6b.keep {w w' : World} {b : Nat} {i : I6} (h : I6b w b i) (hb : BK w w') : I6b w' b i := (bk_block hb (Array.getElem?_eq_some_iff.1 h).1).trans h
theorem I6b.new (w : World) (i : I6) : I6b (w.alloc (.cells #[.int .i64 i.op, .int .i64 i.dst, .int .i64 i.a, .int .i64 i.b, .int .i64 i.c, .int .u64 i.imm] 42)) w.heap.size i := heap_alloc_new w _
theorem I6b.x {w : World} {b : Nat} {i : I6} (h : I6b w b i) : X6 w b i := by
  unfold I6b at h
  refine ⟨?_, ?_, ?_, ?_, ?_, ?_⟩ <;> (rw [cell_of_row w b _ _ 42 _ h]; rfl)
theorem slice125 (a : Addr) (n : Nat) (h : n ≤ 3) (w : World) : (Instr.slice 125 (.slice (some a) 3 3) none (some (.int .i64 (n : Int))) none).run Tryz.prog w = .ok (.slice (some a) n 3) w := by
  have g1 : ¬ (n : Int) < 0 := by omega
  have g4 : (n : Int) ≤ (3 : Int) := by omega
  go_simp
theorem I6b.seta {w : World} {b : Nat} {i : I6} (h : I6b w b i) (v : Int) : I6b (w.setCell ⟨b, 2, none⟩ (.int .i64 v)) b ⟨i.op, i.dst, v, i.b, i.c, i.imm⟩ := by
  unfold I6b at *; rw [heap_setCell_same w b 2 _ 42 _ h]; rfl
theorem I6b.setb {w : World} {b : Nat} {i : I6} (h : I6b w b i) (v : Int) : I6b (w.setCell ⟨b, 3, none⟩ (.int .i64 v)) b ⟨i.op, i.dst, i.a, v, i.c, i.imm⟩ := by
  unfold I6b at *; rw [heap_setCell_same w b 3 _ 42 _ h]; rfl
theorem I6b.setc {w : World} {b : Nat} {i : I6} (h : I6b w b i) (v : Int) : I6b (w.setCell ⟨b, 4, none⟩ (.int .i64 v)) b ⟨i.op, i.dst, i.a, i.b, v, i.imm⟩ := by
  unfold I6b at *; rw [heap_setCell_same w b 4 _ 42 _ h]; rfl
theorem I6b.setd {w : World} {b : Nat} {i : I6} (h : I6b w b i) (v : Int) : I6b (w.setCell ⟨b, 1, none⟩ (.int .i64 v)) b ⟨i.op, v, i.a, i.b, i.c, i.imm⟩ := by
  unfold I6b at *; rw [heap_setCell_same w b 1 _ 42 _ h]; rfl
theorem I6b.setm {w : World} {b : Nat} {i : I6} (h : I6b w b i) (v : Int) : I6b (w.setCell ⟨b, 5, none⟩ (.int .u64 v)) b ⟨i.op, i.dst, i.a, i.b, i.c, v⟩ := by
  unfold I6b at *; rw [heap_setCell_same w b 5 _ 42 _ h]; rfl
theorem I6b.tag {w : World} {b : Nat} {i : I6} (h : I6b w b i) : ∀ k cs, w.heap[k]? = some (.cells cs 9 (0, 0)) → ¬ isB b k := isB_tag h (by decide)
/-- a store into an instruction's block leaves the reader -/
theorem RS.ins {w : World} {r b : Nat} {ts : List ByteArray} {bad : Bool} (h : RS w r ts bad) {i : I6} (hb : I6b w b i) (hrb : r ≠ b) (j : Nat) (v : Value) : RS (w.setCell ⟨b, j, none⟩ v) r ts bad :=
  h.st (st_set w b j v) (fun e => hrb e) hb.tag
/-- stores into a block that is new -/
theorem St.put {F : Nat → Prop} {w w' : World} (h : St F w w') {b : Nat} (hb : w.heap.size ≤ b) (j : Nat) (v : Value) : St F w (w'.setCell ⟨b, j, none⟩ v) :=
  St.tr h (st_set w' b j v) (fun k hk e => by have e : k = b := e; omega)
theorem PS.zero (l : List ByteArray) (op d : Int) : PS l op d 0 ⟨op, d, 0, 0, 0, 0⟩ := ⟨rfl, rfl, rfl, rfl, rfl, rfl⟩
theorem PS.one {l : List ByteArray} {op d : Int} {i : I6} (h : PS l op d 0 i) {v : Int} (hv : Rg l 0 v) : PS l op d 1 ⟨i.op, i.dst, v, i.b, i.c, i.imm⟩ := ⟨h.1, h.2.1, h.2.2.1, hv, h.2.2.2.2.1, h.2.2.2.2.2⟩
theorem PS.two {l : List ByteArray} {op d : Int} {i : I6} (h : PS l op d 1 i) {v : Int} (hv : Rg l 1 v) : PS l op d 2 ⟨i.op, i.dst, i.a, v, i.c, i.imm⟩ := ⟨h.1, h.2.1, h.2.2.1, h.2.2.2.1, hv, h.2.2.2.2.2⟩
theorem PS.three {l : List ByteArray} {op d : Int} {i : I6} (h : PS l op d 2 i) {v : Int} (hv : Rg l 2 v) : PS l op d 3 ⟨i.op, i.dst, i.a, i.b, v, i.imm⟩ := ⟨h.1, h.2.1, h.2.2.1, h.2.2.2.1, h.2.2.2.2.1, hv⟩
/-- the pointers to the sources -/
def P3b (w : World) (P b : Nat) : Prop := w.heap[P]? = some (.cells #[.pointer (some ⟨b, 2, none⟩), .pointer (some ⟨b, 3, none⟩), .pointer (some ⟨b, 4, none⟩)] 126 (0, 0))
theorem P3b.st {F : Nat → Prop} {w w' : World} {P b : Nat} (h : P3b w P b) (s : St F w w') (hn : ¬ F P) : P3b w' P b := st_blk h s hn
theorem I6b.seto {w : World} {b : Nat} {i : I6} (h : I6b w b i) (v : Int) : I6b (w.setCell ⟨b, 0, none⟩ (.int .i64 v)) b ⟨v, i.dst, i.a, i.b, i.c, i.imm⟩ := by
  unfold I6b at *; rw [heap_setCell_same w b 0 _ 42 _ h]; rfl
/-- an instruction is stored -/
def six (w : World) (b : Nat) (i : I6) : World := (((((w.setCell ⟨b, 0, none⟩ (.int .i64 i.op)).setCell ⟨b, 1, none⟩ (.int .i64 i.dst)).setCell ⟨b, 2, none⟩ (.int .i64 i.a)).setCell ⟨b, 3, none⟩ (.int .i64 i.b)).setCell ⟨b, 4, none⟩ (.int .i64 i.c)).setCell ⟨b, 5, none⟩ (.int .u64 i.imm)
theorem six_all {F : Nat → Prop} {w0 w : World} {r b : Nat} {ts : List ByteArray} {bad : Bool} {j : I6} (hr : RS w r ts bad) (hb : I6b w b j) (hrb : r ≠ b) (hz : St F w0 w) (hn : w0.heap.size ≤ b) (i : I6) : RS (six w b i) r ts bad ∧ I6b (six w b i) b i ∧ St F w0 (six w b i) := by
  have b0 := hb.seto i.op
  have b1 := b0.setd i.dst
  have b2 := b1.seta i.a
  have b3 := b2.setb i.b
  have b4 := b3.setc i.c
  have b5 := b4.setm i.imm
  exact ⟨(((((hr.ins hb hrb 0 _).ins b0 hrb 1 _).ins b1 hrb 2 _).ins b2 hrb 3 _).ins b3 hrb 4 _).ins b4 hrb 5 _, b5, (((((hz.put hn 0 _).put hn 1 _).put hn 2 _).put hn 3 _).put hn 4 _).put hn 5 _⟩
theorem ofV_none {s : ByteArray} (h : ofL (bl s) = none) : ofV s = .tuple #[.int .i64 0, .bool false] := by unfold ofV; rw [h]
theorem ofV_some {s : ByteArray} {k : Nat} (h : ofL (bl s) = some k) : ofV s = .tuple #[.int .i64 (k : Int), .bool true] := by unfold ofV; rw [h]
theorem isB_new {r : Nat} {w w' : World} (hr : r < w.heap.size) (hs : w.heap.size ≤ w'.heap.size) : ¬ isB r w'.heap.size := fun e => by have e : w'.heap.size = r := e; omega
set_option maxRecDepth 100000 in
set_option maxHeartbeats 2000000 in
theorem ins80_0 (w : World) (r : Nat) (t : ByteArray) (ts : List ByteArray) (bad : Bool) (h : RS w r (t :: ts) bad) (hs : Sm (t :: ts)) (hr : 9 ≤ r) (ht : Tb w) (b : Bool) (ho : ofV t = .tuple #[.int .i64 0, .bool b]) (hino : InO (t :: ts) bad ⟨0, 0, 0, 0, 0, 0⟩ ts (bad || !b)) :
    Calls Tryz.prog 80 #[.pointer (some ⟨r, 0, none⟩)] w (InP w r (t :: ts) bad) := by
  have hdf : dfB 0 = false := by decide
  have hsr : srcs 0 = ((0 : Nat) : Int) := by decide
  have H := Lib.hid h
  have HRL := Lib.hid (show r < w.heap.size from by obtain ⟨p, c, _, h⟩ := h; exact (Array.getElem?_eq_some_iff.1 h.blk).1)
  have HR9 := Lib.hid hr
  have HF := Lib.hid (show ∀ k, k < 9 → ¬ isB r k from fun k hk e => by have e : k = r := e; omega)
  have HT := Lib.hid ht
  have N1 := Lib.hid (fun (W : World) (h : RS W r (t :: ts) bad) => (show Calls Tryz.prog 96 #[.pointer (some ⟨r, 0, none⟩)] W fun e w' => e = .returned (.string t) ∧ RS w' r ts bad ∧ St (isB r) W w' from next96 W r (t :: ts) bad h))
  have HOF := Lib.hid (fun (W : World) (hT : Tb W) => of11 t W hT)
  rw [ho] at HOF
  have HD := Lib.hid (fun W => df59 (0) W)
  have HSR := Lib.hid (fun W => src86 (0) W)
  rw [hdf] at HD
  rw [hsr] at HSR
  have HI := Lib.hid hino
  clear h ho ht hino hs hr hdf hsr
  go_enter Tryz.func80, Tryz.ntmps80
  go_upto_region 1 with (fail)
  have k0 := bk_alloc (BK.refl w) (.cells #[.int .i64 0, .int .i64 0, .int .i64 0, .int .i64 0, .int .i64 0, .int .u64 0] 42)
  have X0 := Lib.hid (I6b.new w ⟨0, 0, 0, 0, 0, 0⟩)
  have R0 := Lib.hid (H.out.keep k0)
  have Z0 := Lib.hid (St.bk (F := isB r) k0)
  have T0 := Lib.hid (HT.out.keep k0)
  have SZ0 := Lib.hid (sz1 w (.cells #[.int .i64 0, .int .i64 0, .int .i64 0, .int .i64 0, .int .i64 0, .int .u64 0] 42))
  generalize w.alloc (.cells #[.int .i64 0, .int .i64 0, .int .i64 0, .int .i64 0, .int .i64 0, .int .u64 0] 42) = w0 at R0 Z0 T0 X0 SZ0 ⊢
  clear k0
  go_wp2_with fail
  have C := N1.out w0 R0.out
  refine C.mono ?_
  clear C
  rintro e w1 ⟨rfl, r1, s1⟩
  have R1 := Lib.hid (show RS w1 r ts bad from r1)
  have Z1 := Lib.hid (Z0.out.trans s1)
  have X1 := Lib.hid (X0.out.st s1 (isB_new HRL.out (Nat.le_refl _)))
  have T1 := Lib.hid (T0.out.st s1 HF.out)
  have SZ1 := Lib.hid s1.size
  clear r1 s1
  go_wp2_with fail
  have C := HOF.out w1 T1.out
  refine C.mono ?_
  clear C
  rintro e w' ⟨rfl, rfl⟩
  go_wp2_with fail
  have C := require78 w1 r ts bad R1.out b
  refine C.mono ?_
  clear C
  rintro e w2 ⟨rfl, r2, s2⟩
  have R2 := Lib.hid r2
  have Z2 := Lib.hid (Z1.out.trans s2)
  have X2 := Lib.hid (X1.out.st s2 (isB_new HRL.out (Nat.le_refl _)))
  have T2 := Lib.hid (T1.out.st s2 HF.out)
  have HIN := Lib.hid (show w.heap.size < w2.heap.size from by have := SZ0.out; have := SZ1.out; have := s2.size; omega)
  clear r2 s2
  go_upto_region 4 with (fail)
  have k3 := bk_alloc (BK.refl w2) (.cells #[.int .i64 0, .int .i64 0, .int .i64 0, .int .i64 0, .int .i64 0, .int .u64 0] 42)
  have Y3 := Lib.hid (I6b.new w2 ⟨0, 0, 0, 0, 0, 0⟩)
  have R3 := Lib.hid (R2.out.keep k3)
  have X3 := Lib.hid (X2.out.keep k3)
  have T3 := Lib.hid (T2.out.keep k3)
  have Z3 := Lib.hid (Z2.out.trans (St.bk k3))
  have SZ3 := Lib.hid (sz1 w2 (.cells #[.int .i64 0, .int .i64 0, .int .i64 0, .int .i64 0, .int .i64 0, .int .u64 0] 42))
  generalize w2.alloc (.cells #[.int .i64 0, .int .i64 0, .int .i64 0, .int .i64 0, .int .i64 0, .int .u64 0] 42) = w3 at R3 X3 T3 Z3 Y3 SZ3 ⊢
  clear k3
  obtain ⟨I, hI⟩ : ∃ I, I = w2.heap.size := ⟨_, rfl⟩
  rw [← hI] at Y3 SZ3 HIN ⊢
  clear hI
  have HRI := Lib.hid (show r ≠ I from by have := HRL.out; have := HIN.out; omega)
  go_upto_region 8 with (go_at_call 40; refine (HD.out _).mono ?_; rintro e w' ⟨rfl, rfl⟩)
  have hsl := fun (W : World) => slice125 ⟨w3.heap.size, 0, none⟩ 0 (by omega) W
  have kp := bk_alloc (BK.refl w3) (.cells #[.pointer (some ⟨I, 2, none⟩), .pointer (some ⟨I, 3, none⟩), .pointer (some ⟨I, 4, none⟩)] 126)
  have PP := Lib.hid (show P3b (w3.alloc (.cells #[.pointer (some ⟨I, 2, none⟩), .pointer (some ⟨I, 3, none⟩), .pointer (some ⟨I, 4, none⟩)] 126)) w3.heap.size I from heap_alloc_new w3 _)
  have RP := Lib.hid (R3.out.keep kp)
  have XP := Lib.hid (X3.out.keep kp)
  have YP := Lib.hid (Y3.out.keep kp)
  have TP := Lib.hid (T3.out.keep kp)
  have ZP := Lib.hid (Z3.out.trans (St.bk kp))
  have HPI := Lib.hid (show I < w3.heap.size from (Array.getElem?_eq_some_iff.1 Y3.out).1)
  clear kp
  go_wp2_with (go_at_call 16; refine (HSR.out _).mono ?_; rintro e w' ⟨rfl, rfl⟩)
  generalize w3.alloc (.cells #[.pointer (some ⟨I, 2, none⟩), .pointer (some ⟨I, 3, none⟩), .pointer (some ⟨I, 4, none⟩)] 126) = wP at PP RP XP YP TP ZP ⊢
  generalize w3.heap.size = P at PP HPI ⊢
  clear hsl
  have HPW := Lib.hid (show w.heap.size ≤ P from by have := HPI.out; have := HIN.out; omega)
  go_loopw [37] (fun x wr => ∃ (k : Nat) (i : I6) (ts' : List ByteArray) (bad' : Bool), x = .int .i64 (k : Int) ∧ k ≤ 0 ∧ RS wr r ts' bad' ∧ I6b wr I i ∧ I6b wr w.heap.size ⟨0, 0, 0, 0, 0, 0⟩ ∧ P3b wr P I ∧ Tb wr ∧ St (isB r) w wr ∧ Hid (ts' = ts ∧ bad' = (bad || !b) ∧ i = ⟨0, 0, 0, 0, 0, 0⟩)) (fun x _ => 0 - (intOf x).toNat)
  case atStart => exact ⟨0, _, _, _, rfl, Nat.zero_le _, RP.out, YP.out, XP.out, PP.out, TP.out, ZP.out, Lib.hid ⟨rfl, rfl, rfl⟩⟩
  case round =>
    obtain ⟨k, i, ts', bad', rfl, hk, r0, y0, x0, p0, t0, z0, HREL⟩ := hrel
    have R0 := Lib.hid r0
    have Y0 := Lib.hid y0
    have X0 := Lib.hid x0
    have P0 := Lib.hid p0
    have T0 := Lib.hid t0
    have Z0 := Lib.hid z0
    clear r0 t0 z0 p0
    obtain rfl : k = 0 := by omega
    obtain ⟨rfl, rfl, rfl⟩ := HREL.out
    obtain ⟨d0, d1, d2, d3, d4, d5⟩ := y0.x
    obtain ⟨e0, e1, e2, e3, e4, e5⟩ := x0.x
    have ff : ∀ j, wr.frozen? ⟨w.heap.size, j, none⟩ = false := fun j => by simp [World.frozen?, show wr.heap[w.heap.size]? = _ from X0.out]
    have f0 := ff 0
    have f1 := ff 1
    have f2 := ff 2
    have f3 := ff 3
    have f4 := ff 4
    have f5 := ff 5
    clear ff x0 y0
    go_wp2_with fail
    clear d0 d1 d2 d3 d4 d5 e0 e1 e2 e3 e4 e5 f0 f1 f2 f3 f4 f5
    have HS6 := Lib.hid (six_all R0.out X0.out (show r ≠ w.heap.size from by have := HRL.out; omega) Z0.out (Nat.le_refl _) ⟨0, 0, 0, 0, 0, 0⟩)
    unfold six at HS6
    try dsimp only at HS6
    generalize HW : (((((wr.setCell ⟨w.heap.size, 0, none⟩ _).setCell ⟨w.heap.size, 1, none⟩ _).setCell ⟨w.heap.size, 2, none⟩ _).setCell ⟨w.heap.size, 3, none⟩ _).setCell ⟨w.heap.size, 4, none⟩ _).setCell ⟨w.heap.size, 5, none⟩ _ = wE at HS6 ⊢
    clear HW
    obtain ⟨g0, g1, g2, g3, g4, g5⟩ := HS6.out.2.1.x
    refine bodyPost_ret (v := av ⟨0, 0, 0, 0, 0, 0⟩) (by simp [results, Tryz.results80, go_sem, g0, g1, g2, g3, g4, g5, av]) rfl ?_
    exact ⟨_, _, _, rfl, HS6.out.1, HI.out, HS6.out.2.2⟩
set_option maxRecDepth 100000 in
set_option maxHeartbeats 4000000 in
theorem ins80_1 (w : World) (r : Nat) (t : ByteArray) (ts : List ByteArray) (bad : Bool) (h : RS w r (t :: ts) bad) (hs : Sm (t :: ts)) (hr : 9 ≤ r) (ht : Tb w) (hof : ofL (bl t) = some 1) :
    Calls Tryz.prog 80 #[.pointer (some ⟨r, 0, none⟩)] w (InP w r (t :: ts) bad) := by
  have hdf : dfB 1 = true := by decide
  have hsr : srcs 1 = ((0 : Nat) : Int) := by decide
  have ho : ofV t = .tuple #[.int .i64 1, .bool true] := ofV_some hof
  have HINO := Lib.hid (fun (d : Int) (x : Nat) => ino_movi (ts := ts) (bad := bad) hof (d := d) (x := x))
  have H := Lib.hid h
  have HRL := Lib.hid (show r < w.heap.size from by obtain ⟨p, c, _, h⟩ := h; exact (Array.getElem?_eq_some_iff.1 h.blk).1)
  have HR9 := Lib.hid hr
  have HF := Lib.hid (show ∀ k, k < 9 → ¬ isB r k from fun k hk e => by have e : k = r := e; omega)
  have HT := Lib.hid ht
  have N1 := Lib.hid (fun (W : World) (h : RS W r (t :: ts) bad) => (show Calls Tryz.prog 96 #[.pointer (some ⟨r, 0, none⟩)] W fun e w' => e = .returned (.string t) ∧ RS w' r ts bad ∧ St (isB r) W w' from next96 W r (t :: ts) bad h))
  have HOF := Lib.hid (fun (W : World) (hT : Tb W) => of11 t W hT)
  rw [ho] at HOF
  have HD := Lib.hid (fun W => df59 (1) W)
  have HSR := Lib.hid (fun W => src86 (1) W)
  rw [hdf] at HD
  rw [hsr] at HSR
  have HSM := Lib.hid (show Sm ts from hs.tl)
  clear h ho ht hs hr hdf hsr hof
  go_enter Tryz.func80, Tryz.ntmps80
  go_upto_region 1 with (fail)
  have k0 := bk_alloc (BK.refl w) (.cells #[.int .i64 0, .int .i64 0, .int .i64 0, .int .i64 0, .int .i64 0, .int .u64 0] 42)
  have X0 := Lib.hid (I6b.new w ⟨0, 0, 0, 0, 0, 0⟩)
  have R0 := Lib.hid (H.out.keep k0)
  have Z0 := Lib.hid (St.bk (F := isB r) k0)
  have T0 := Lib.hid (HT.out.keep k0)
  have SZ0 := Lib.hid (sz1 w (.cells #[.int .i64 0, .int .i64 0, .int .i64 0, .int .i64 0, .int .i64 0, .int .u64 0] 42))
  generalize w.alloc (.cells #[.int .i64 0, .int .i64 0, .int .i64 0, .int .i64 0, .int .i64 0, .int .u64 0] 42) = w0 at R0 Z0 T0 X0 SZ0 ⊢
  clear k0
  go_wp2_with fail
  have C := N1.out w0 R0.out
  refine C.mono ?_
  clear C
  rintro e w1 ⟨rfl, r1, s1⟩
  have R1 := Lib.hid (show RS w1 r ts bad from r1)
  have Z1 := Lib.hid (Z0.out.trans s1)
  have X1 := Lib.hid (X0.out.st s1 (isB_new HRL.out (Nat.le_refl _)))
  have T1 := Lib.hid (T0.out.st s1 HF.out)
  have SZ1 := Lib.hid s1.size
  clear r1 s1
  go_wp2_with fail
  have C := HOF.out w1 T1.out
  refine C.mono ?_
  clear C
  rintro e w' ⟨rfl, rfl⟩
  go_wp2_with fail
  have C := require78 w1 r ts bad R1.out true
  refine C.mono ?_
  clear C
  rintro e w2 ⟨rfl, r2, s2⟩
  have R2 := Lib.hid r2
  have Z2 := Lib.hid (Z1.out.trans s2)
  have X2 := Lib.hid (X1.out.st s2 (isB_new HRL.out (Nat.le_refl _)))
  have T2 := Lib.hid (T1.out.st s2 HF.out)
  have HIN := Lib.hid (show w.heap.size < w2.heap.size from by have := SZ0.out; have := SZ1.out; have := s2.size; omega)
  clear r2 s2
  go_upto_region 4 with (fail)
  have k3 := bk_alloc (BK.refl w2) (.cells #[.int .i64 1, .int .i64 0, .int .i64 0, .int .i64 0, .int .i64 0, .int .u64 0] 42)
  have Y3 := Lib.hid (I6b.new w2 ⟨1, 0, 0, 0, 0, 0⟩)
  have R3 := Lib.hid (R2.out.keep k3)
  have X3 := Lib.hid (X2.out.keep k3)
  have T3 := Lib.hid (T2.out.keep k3)
  have Z3 := Lib.hid (Z2.out.trans (St.bk k3))
  have SZ3 := Lib.hid (sz1 w2 (.cells #[.int .i64 1, .int .i64 0, .int .i64 0, .int .i64 0, .int .i64 0, .int .u64 0] 42))
  generalize w2.alloc (.cells #[.int .i64 1, .int .i64 0, .int .i64 0, .int .i64 0, .int .i64 0, .int .u64 0] 42) = w3 at R3 X3 T3 Z3 Y3 SZ3 ⊢
  clear k3
  obtain ⟨I, hI⟩ : ∃ I, I = w2.heap.size := ⟨_, rfl⟩
  rw [← hI] at Y3 SZ3 HIN ⊢
  clear hI
  have HRI := Lib.hid (show r ≠ I from by have := HRL.out; have := HIN.out; omega)
  go_wp2_with (go_at_call 40; refine (HD.out _).mono ?_; rintro e w' ⟨rfl, rfl⟩)
  have C := register98 w3 r ts (bad || !true) R3.out HSM.out HR9.out T3.out
  refine C.mono ?_
  clear C
  rintro e w4 ⟨n4, rfl, i4, m4, r4, s4⟩
  have HM4 := Lib.hid m4
  have R4 := Lib.hid r4
  have Z4 := Lib.hid (Z3.out.trans s4)
  have X4 := Lib.hid (X3.out.st s4 (isB_new HRL.out (Nat.le_refl _)))
  have Y4 := Lib.hid (Y3.out.st s4 (fun e => HRI.out e.symm))
  have T4 := Lib.hid (T3.out.st s4 HF.out)
  clear m4 r4 s4 i4
  have y4 := Y4.out.x.2.1
  have f4 : w4.frozen? ⟨I, 1, none⟩ = false := by simp [World.frozen?, show w4.heap[I]? = _ from Y4.out]
  go_upto_region 6 with (fail)
  have Y5 := Lib.hid (Y4.out.setd n4)
  have R5 := Lib.hid (R4.out.ins Y4.out HRI.out 1 (.int .i64 n4))
  have X5 := Lib.hid (X4.out.st (st_set w4 I 1 (.int .i64 n4)) (fun e => by have := HIN.out; have e : w.heap.size = I := e; omega))
  have T5 := Lib.hid (T4.out.st (st_set w4 I 1 (.int .i64 n4)) (fun k hk e => by have := HIN.out; have := HRL.out; have := HR9.out; have e : k = I := e; omega))
  have Z5 := Lib.hid (Z4.out.put (Nat.le_of_lt HIN.out) 1 (.int .i64 n4))
  generalize w4.setCell ⟨I, 1, none⟩ (.int .i64 n4) = w5 at Y5 R5 X5 T5 Z5 ⊢
  clear y4 f4
  go_wp2_with fail
  have C := immediate99 w5 r ts.tail (bad || !true || (regO (bl (hdB ts))).isNone) R5.out HSM.out.tl HR9.out T5.out
  refine C.mono ?_
  clear C
  rintro e w6 ⟨n6, rfl, i6, m6, r6, s6⟩
  have HM6 := Lib.hid m6
  have R6 := Lib.hid r6
  have Z6 := Lib.hid (Z5.out.trans s6)
  have X6' := Lib.hid (X5.out.st s6 (isB_new HRL.out (Nat.le_refl _)))
  have Y6 := Lib.hid (Y5.out.st s6 (fun e => HRI.out e.symm))
  have T6 := Lib.hid (T5.out.st s6 HF.out)
  clear m6 r6 s6 i6
  have y6 := Y6.out.x.2.2.2.2.2
  have f6 : w6.frozen? ⟨I, 5, none⟩ = false := by simp [World.frozen?, show w6.heap[I]? = _ from Y6.out]
  go_upto_region 8 with (fail)
  have Y7 := Lib.hid (Y6.out.setm (n6 : Int))
  have R7 := Lib.hid (R6.out.ins Y6.out HRI.out 5 (.int .u64 (n6 : Int)))
  have X7 := Lib.hid (X6'.out.st (st_set w6 I 5 (.int .u64 (n6 : Int))) (fun e => by have := HIN.out; have e : w.heap.size = I := e; omega))
  have T7 := Lib.hid (T6.out.st (st_set w6 I 5 (.int .u64 (n6 : Int))) (fun k hk e => by have := HIN.out; have := HRL.out; have := HR9.out; have e : k = I := e; omega))
  have Z7 := Lib.hid (Z6.out.put (Nat.le_of_lt HIN.out) 5 (.int .u64 (n6 : Int)))
  generalize w6.setCell ⟨I, 5, none⟩ (.int .u64 (n6 : Int)) = w7 at Y7 R7 X7 T7 Z7 ⊢
  clear y6 f6
  have hsl := fun (W : World) => slice125 ⟨w7.heap.size, 0, none⟩ 0 (by omega) W
  have kp := bk_alloc (BK.refl w7) (.cells #[.pointer (some ⟨I, 2, none⟩), .pointer (some ⟨I, 3, none⟩), .pointer (some ⟨I, 4, none⟩)] 126)
  have PP := Lib.hid (show P3b (w7.alloc (.cells #[.pointer (some ⟨I, 2, none⟩), .pointer (some ⟨I, 3, none⟩), .pointer (some ⟨I, 4, none⟩)] 126)) w7.heap.size I from heap_alloc_new w7 _)
  have RP := Lib.hid (R7.out.keep kp)
  have XP := Lib.hid (X7.out.keep kp)
  have YP := Lib.hid (Y7.out.keep kp)
  have TP := Lib.hid (T7.out.keep kp)
  have ZP := Lib.hid (Z7.out.trans (St.bk kp))
  have HPI := Lib.hid (show I < w7.heap.size from (Array.getElem?_eq_some_iff.1 Y7.out).1)
  clear kp
  go_wp2_with (go_at_call 16; refine (HSR.out _).mono ?_; rintro e w' ⟨rfl, rfl⟩)
  generalize w7.alloc (.cells #[.pointer (some ⟨I, 2, none⟩), .pointer (some ⟨I, 3, none⟩), .pointer (some ⟨I, 4, none⟩)] 126) = wP at PP RP XP YP TP ZP ⊢
  generalize w7.heap.size = P at PP HPI ⊢
  clear hsl
  have HPW := Lib.hid (show w.heap.size ≤ P from by have := HPI.out; have := HIN.out; omega)
  go_loopw [37] (fun x wr => ∃ (k : Nat) (i : I6) (ts' : List ByteArray) (bad' : Bool), x = .int .i64 (k : Int) ∧ k ≤ 0 ∧ RS wr r ts' bad' ∧ I6b wr I i ∧ I6b wr w.heap.size ⟨0, 0, 0, 0, 0, 0⟩ ∧ P3b wr P I ∧ Tb wr ∧ St (isB r) w wr ∧ Hid (ts' = ts.tail.tail ∧ bad' = (bad || !true || (regO (bl (hdB ts))).isNone || (decO (bl (hdB ts.tail))).isNone) ∧ i = ⟨1, n4, 0, 0, 0, (n6 : Int)⟩)) (fun x _ => 0 - (intOf x).toNat)
  case atStart => exact ⟨0, _, _, _, rfl, Nat.zero_le _, RP.out, YP.out, XP.out, PP.out, TP.out, ZP.out, Lib.hid ⟨rfl, rfl, rfl⟩⟩
  case round =>
    obtain ⟨k, i, ts', bad', rfl, hk, r0, y0, x0, p0, t0, z0, HREL⟩ := hrel
    have R0 := Lib.hid r0
    have Y0 := Lib.hid y0
    have X0 := Lib.hid x0
    have P0 := Lib.hid p0
    have T0 := Lib.hid t0
    have Z0 := Lib.hid z0
    clear r0 t0 z0 p0
    obtain rfl : k = 0 := by omega
    obtain ⟨rfl, rfl, rfl⟩ := HREL.out
    obtain ⟨d0, d1, d2, d3, d4, d5⟩ := y0.x
    obtain ⟨e0, e1, e2, e3, e4, e5⟩ := x0.x
    have ff : ∀ j, wr.frozen? ⟨w.heap.size, j, none⟩ = false := fun j => by simp [World.frozen?, show wr.heap[w.heap.size]? = _ from X0.out]
    have f0 := ff 0
    have f1 := ff 1
    have f2 := ff 2
    have f3 := ff 3
    have f4 := ff 4
    have f5 := ff 5
    clear ff x0 y0
    go_wp2_with fail
    clear d0 d1 d2 d3 d4 d5 e0 e1 e2 e3 e4 e5 f0 f1 f2 f3 f4 f5
    have HS6 := Lib.hid (six_all R0.out X0.out (show r ≠ w.heap.size from by have := HRL.out; omega) Z0.out (Nat.le_refl _) ⟨1, n4, 0, 0, 0, (n6 : Int)⟩)
    unfold six at HS6
    try dsimp only at HS6
    generalize HW : (((((wr.setCell ⟨w.heap.size, 0, none⟩ _).setCell ⟨w.heap.size, 1, none⟩ _).setCell ⟨w.heap.size, 2, none⟩ _).setCell ⟨w.heap.size, 3, none⟩ _).setCell ⟨w.heap.size, 4, none⟩ _).setCell ⟨w.heap.size, 5, none⟩ _ = wE at HS6 ⊢
    clear HW
    obtain ⟨g0, g1, g2, g3, g4, g5⟩ := HS6.out.2.1.x
    refine bodyPost_ret (v := av ⟨1, n4, 0, 0, 0, (n6 : Int)⟩) (by simp [results, Tryz.results80, go_sem, g0, g1, g2, g3, g4, g5, av]) rfl ?_
    exact ⟨_, _, _, rfl, HS6.out.1, HINO.out _ _ HM4.out HM6.out, HS6.out.2.2⟩
set_option maxRecDepth 100000 in
set_option maxHeartbeats 4000000 in
theorem ins80_2 (w : World) (r : Nat) (t : ByteArray) (ts : List ByteArray) (bad : Bool) (h : RS w r (t :: ts) bad) (hs : Sm (t :: ts)) (hr : 9 ≤ r) (ht : Tb w) (op n : Nat) (hof : ofL (bl t) = some op) (h2 : 2 ≤ op) (hn1 : n ≤ 3) (hsr : srcs (op : Int) = (n : Int)) (hdf : dfB (op : Int) = true) :
    Calls Tryz.prog 80 #[.pointer (some ⟨r, 0, none⟩)] w (InP w r (t :: ts) bad) := by
  have ho : ofV t = .tuple #[.int .i64 (op : Int), .bool true] := ofV_some hof
  have HINO := Lib.hid (fun (d : Int) (i : I6) => ino_regs (ts := ts) (bad := bad) hof h2 hsr hn1 (d := d) (i := i))
  have H := Lib.hid h
  have HRL := Lib.hid (show r < w.heap.size from by obtain ⟨p, c, _, h⟩ := h; exact (Array.getElem?_eq_some_iff.1 h.blk).1)
  have HR9 := Lib.hid hr
  have HF := Lib.hid (show ∀ k, k < 9 → ¬ isB r k from fun k hk e => by have e : k = r := e; omega)
  have HT := Lib.hid ht
  have N1 := Lib.hid (fun (W : World) (h : RS W r (t :: ts) bad) => (show Calls Tryz.prog 96 #[.pointer (some ⟨r, 0, none⟩)] W fun e w' => e = .returned (.string t) ∧ RS w' r ts bad ∧ St (isB r) W w' from next96 W r (t :: ts) bad h))
  have HOF := Lib.hid (fun (W : World) (hT : Tb W) => of11 t W hT)
  rw [ho] at HOF
  have HD := Lib.hid (fun W => df59 (op : Int) W)
  have HSR := Lib.hid (fun W => src86 (op : Int) W)
  rw [hdf] at HD
  rw [hsr] at HSR
  have HSM := Lib.hid (show Sm ts from hs.tl)
  have hop : ((op : Int) == 1) = false := by rw [beq_eq_false_iff_ne]; omega
  clear h ho ht hs hr hdf hsr hof
  go_enter Tryz.func80, Tryz.ntmps80
  go_upto_region 1 with (fail)
  have k0 := bk_alloc (BK.refl w) (.cells #[.int .i64 0, .int .i64 0, .int .i64 0, .int .i64 0, .int .i64 0, .int .u64 0] 42)
  have X0 := Lib.hid (I6b.new w ⟨0, 0, 0, 0, 0, 0⟩)
  have R0 := Lib.hid (H.out.keep k0)
  have Z0 := Lib.hid (St.bk (F := isB r) k0)
  have T0 := Lib.hid (HT.out.keep k0)
  have SZ0 := Lib.hid (sz1 w (.cells #[.int .i64 0, .int .i64 0, .int .i64 0, .int .i64 0, .int .i64 0, .int .u64 0] 42))
  generalize w.alloc (.cells #[.int .i64 0, .int .i64 0, .int .i64 0, .int .i64 0, .int .i64 0, .int .u64 0] 42) = w0 at R0 Z0 T0 X0 SZ0 ⊢
  clear k0
  go_wp2_with fail
  have C := N1.out w0 R0.out
  refine C.mono ?_
  clear C
  rintro e w1 ⟨rfl, r1, s1⟩
  have R1 := Lib.hid (show RS w1 r ts bad from r1)
  have Z1 := Lib.hid (Z0.out.trans s1)
  have X1 := Lib.hid (X0.out.st s1 (isB_new HRL.out (Nat.le_refl _)))
  have T1 := Lib.hid (T0.out.st s1 HF.out)
  have SZ1 := Lib.hid s1.size
  clear r1 s1
  go_wp2_with fail
  have C := HOF.out w1 T1.out
  refine C.mono ?_
  clear C
  rintro e w' ⟨rfl, rfl⟩
  go_wp2_with fail
  have C := require78 w1 r ts bad R1.out true
  refine C.mono ?_
  clear C
  rintro e w2 ⟨rfl, r2, s2⟩
  have R2 := Lib.hid r2
  have Z2 := Lib.hid (Z1.out.trans s2)
  have X2 := Lib.hid (X1.out.st s2 (isB_new HRL.out (Nat.le_refl _)))
  have T2 := Lib.hid (T1.out.st s2 HF.out)
  have HIN := Lib.hid (show w.heap.size < w2.heap.size from by have := SZ0.out; have := SZ1.out; have := s2.size; omega)
  clear r2 s2
  go_upto_region 4 with (fail)
  have k3 := bk_alloc (BK.refl w2) (.cells #[.int .i64 (op : Int), .int .i64 0, .int .i64 0, .int .i64 0, .int .i64 0, .int .u64 0] 42)
  have Y3 := Lib.hid (I6b.new w2 ⟨(op : Int), 0, 0, 0, 0, 0⟩)
  have R3 := Lib.hid (R2.out.keep k3)
  have X3 := Lib.hid (X2.out.keep k3)
  have T3 := Lib.hid (T2.out.keep k3)
  have Z3 := Lib.hid (Z2.out.trans (St.bk k3))
  have SZ3 := Lib.hid (sz1 w2 (.cells #[.int .i64 (op : Int), .int .i64 0, .int .i64 0, .int .i64 0, .int .i64 0, .int .u64 0] 42))
  generalize w2.alloc (.cells #[.int .i64 (op : Int), .int .i64 0, .int .i64 0, .int .i64 0, .int .i64 0, .int .u64 0] 42) = w3 at R3 X3 T3 Z3 Y3 SZ3 ⊢
  clear k3
  obtain ⟨I, hI⟩ : ∃ I, I = w2.heap.size := ⟨_, rfl⟩
  rw [← hI] at Y3 SZ3 HIN ⊢
  clear hI
  have HRI := Lib.hid (show r ≠ I from by have := HRL.out; have := HIN.out; omega)
  go_wp2_with (go_at_call 40; refine (HD.out _).mono ?_; rintro e w' ⟨rfl, rfl⟩)
  have C := register98 w3 r ts (bad || !true) R3.out HSM.out HR9.out T3.out
  refine C.mono ?_
  clear C
  rintro e w4 ⟨n4, rfl, i4, m4, r4, s4⟩
  have HM4 := Lib.hid m4
  have R4 := Lib.hid r4
  have Z4 := Lib.hid (Z3.out.trans s4)
  have X4 := Lib.hid (X3.out.st s4 (isB_new HRL.out (Nat.le_refl _)))
  have Y4 := Lib.hid (Y3.out.st s4 (fun e => HRI.out e.symm))
  have T4 := Lib.hid (T3.out.st s4 HF.out)
  clear m4 r4 s4 i4
  have y4 := Y4.out.x.2.1
  have f4 : w4.frozen? ⟨I, 1, none⟩ = false := by simp [World.frozen?, show w4.heap[I]? = _ from Y4.out]
  go_upto_region 8 with (fail)
  have Y5 := Lib.hid (Y4.out.setd n4)
  have R5 := Lib.hid (R4.out.ins Y4.out HRI.out 1 (.int .i64 n4))
  have X5 := Lib.hid (X4.out.st (st_set w4 I 1 (.int .i64 n4)) (fun e => by have := HIN.out; have e : w.heap.size = I := e; omega))
  have T5 := Lib.hid (T4.out.st (st_set w4 I 1 (.int .i64 n4)) (fun k hk e => by have := HIN.out; have := HRL.out; have := HR9.out; have e : k = I := e; omega))
  have Z5 := Lib.hid (Z4.out.put (Nat.le_of_lt HIN.out) 1 (.int .i64 n4))
  generalize w4.setCell ⟨I, 1, none⟩ (.int .i64 n4) = w5 at Y5 R5 X5 T5 Z5 ⊢
  clear y4 f4
  have hsl := fun (W : World) => slice125 ⟨w5.heap.size, 0, none⟩ n (by omega) W
  have kp := bk_alloc (BK.refl w5) (.cells #[.pointer (some ⟨I, 2, none⟩), .pointer (some ⟨I, 3, none⟩), .pointer (some ⟨I, 4, none⟩)] 126)
  have PP := Lib.hid (show P3b (w5.alloc (.cells #[.pointer (some ⟨I, 2, none⟩), .pointer (some ⟨I, 3, none⟩), .pointer (some ⟨I, 4, none⟩)] 126)) w5.heap.size I from heap_alloc_new w5 _)
  have RP := Lib.hid (R5.out.keep kp)
  have XP := Lib.hid (X5.out.keep kp)
  have YP := Lib.hid (Y5.out.keep kp)
  have TP := Lib.hid (T5.out.keep kp)
  have ZP := Lib.hid (Z5.out.trans (St.bk kp))
  have HPI := Lib.hid (show I < w5.heap.size from (Array.getElem?_eq_some_iff.1 Y5.out).1)
  clear kp
  go_wp2_with (go_at_call 16; refine (HSR.out _).mono ?_; rintro e w' ⟨rfl, rfl⟩)
  generalize w5.alloc (.cells #[.pointer (some ⟨I, 2, none⟩), .pointer (some ⟨I, 3, none⟩), .pointer (some ⟨I, 4, none⟩)] 126) = wP at PP RP XP YP TP ZP ⊢
  generalize w5.heap.size = P at PP HPI ⊢
  clear hsl
  have HPW := Lib.hid (show w.heap.size ≤ P from by have := HPI.out; have := HIN.out; omega)
  go_loopw [37] (fun x wr => ∃ (k : Nat) (i : I6) (ts' : List ByteArray) (bad' : Bool), x = .int .i64 (k : Int) ∧ k ≤ n ∧ RS wr r ts' bad' ∧ I6b wr I i ∧ I6b wr w.heap.size ⟨0, 0, 0, 0, 0, 0⟩ ∧ P3b wr P I ∧ Tb wr ∧ St (isB r) w wr ∧ Hid (ts' = ts.tail.drop k ∧ bad' = (bad || !true || (regO (bl (hdB ts))).isNone || rdB k ts.tail) ∧ PS ts.tail (op : Int) n4 k i)) (fun x _ => n - (intOf x).toNat)
  case atStart => exact ⟨0, _, _, _, rfl, Nat.zero_le _, RP.out, YP.out, XP.out, PP.out, TP.out, ZP.out, Lib.hid ⟨rfl, by rw [show rdB 0 ts.tail = false from rfl, Bool.or_false], PS.zero _ _ _⟩⟩
  case round =>
    obtain ⟨k, i, ts', bad', rfl, hk, r0, y0, x0, p0, t0, z0, HREL⟩ := hrel
    have R0 := Lib.hid r0
    have Y0 := Lib.hid y0
    have X0 := Lib.hid x0
    have P0 := Lib.hid p0
    have T0 := Lib.hid t0
    have Z0 := Lib.hid z0
    clear r0 t0 z0 p0
    by_cases hlt : k < n
    · have HSX := Lib.hid (show Sm ts' from fun u hu => by rw [HREL.out.1] at hu; exact HSM.out.tl u (List.mem_of_mem_drop hu))
      have hkc : k = 0 ∨ k = 1 ∨ k = 2 := by omega
      rcases hkc with hk0 | hk0 | hk0
      · obtain rfl : k = 0 := by omega
        have hkn : (((0 : Nat) : Int)) < (n : Int) := by omega
        have pc := cell_of_row wr P 0 _ 126 (0, 0) P0.out
        have dn : decide ((((0 : Nat) : Int)) < (n : Int)) = true := by rw [decide_eq_true_eq]; exact hkn
        clear x0 y0
        go_wp2_with fail
        have C := register98 wr r ts' bad' R0.out HSX.out HR9.out T0.out
        refine C.mono ?_
        clear C
        rintro e wA ⟨n9, rfl, i9, m9, r9, s9⟩
        have HM9 := Lib.hid m9
        have R9 := Lib.hid r9
        have Z9 := Lib.hid (Z0.out.trans s9)
        have X9 := Lib.hid (X0.out.st s9 (isB_new HRL.out (Nat.le_refl _)))
        have Y9 := Lib.hid (Y0.out.st s9 (fun e => HRI.out e.symm))
        have T9 := Lib.hid (T0.out.st s9 HF.out)
        have P9 := Lib.hid (P0.out.st s9 (fun e => by have := HRL.out; have := HPW.out; have e : P = r := e; omega))
        clear m9 r9 s9 i9
        have y9 := Y9.out.x.2.2.1
        have f9 : wA.frozen? ⟨I, 2, none⟩ = false := by simp [World.frozen?, show wA.heap[I]? = _ from Y9.out]
        go_wp2_with fail
        go_roundw
        case rel =>
          refine ⟨1, _, _, _, by go_num, by omega, R9.out.ins Y9.out HRI.out 2 _, Y9.out.seta _, X9.out.st (st_set wA I 2 _) (fun e => by have := HIN.out; have e : w.heap.size = I := e; omega), P9.out.st (st_set wA I 2 _) (fun e => by have := HPI.out; have e : P = I := e; omega), T9.out.st (st_set wA I 2 _) (fun k hk e => by have := HIN.out; have := HRL.out; have := HR9.out; have e : k = I := e; omega), Z9.out.put (Nat.le_of_lt HIN.out) 2 _, Lib.hid ⟨?_, ?_, ?_⟩⟩
          · rw [HREL.out.1, drop_tail]
          · rw [HREL.out.2.1, show rdB 1 ts.tail = _ from rdB_snoc 0 ts.tail, ← HREL.out.1, Bool.or_assoc]
          · refine HREL.out.2.2.one ?_
            have := HM9.out
            rw [HREL.out.1] at this
            exact this
        case measure => simp [intOf]; omega
      · obtain rfl : k = 1 := by omega
        have hkn : (((1 : Nat) : Int)) < (n : Int) := by omega
        have pc := cell_of_row wr P 1 _ 126 (0, 0) P0.out
        have dn : decide ((((1 : Nat) : Int)) < (n : Int)) = true := by rw [decide_eq_true_eq]; exact hkn
        clear x0 y0
        go_wp2_with fail
        have C := register98 wr r ts' bad' R0.out HSX.out HR9.out T0.out
        refine C.mono ?_
        clear C
        rintro e wA ⟨n9, rfl, i9, m9, r9, s9⟩
        have HM9 := Lib.hid m9
        have R9 := Lib.hid r9
        have Z9 := Lib.hid (Z0.out.trans s9)
        have X9 := Lib.hid (X0.out.st s9 (isB_new HRL.out (Nat.le_refl _)))
        have Y9 := Lib.hid (Y0.out.st s9 (fun e => HRI.out e.symm))
        have T9 := Lib.hid (T0.out.st s9 HF.out)
        have P9 := Lib.hid (P0.out.st s9 (fun e => by have := HRL.out; have := HPW.out; have e : P = r := e; omega))
        clear m9 r9 s9 i9
        have y9 := Y9.out.x.2.2.2.1
        have f9 : wA.frozen? ⟨I, 3, none⟩ = false := by simp [World.frozen?, show wA.heap[I]? = _ from Y9.out]
        go_wp2_with fail
        go_roundw
        case rel =>
          refine ⟨2, _, _, _, by go_num, by omega, R9.out.ins Y9.out HRI.out 3 _, Y9.out.setb _, X9.out.st (st_set wA I 3 _) (fun e => by have := HIN.out; have e : w.heap.size = I := e; omega), P9.out.st (st_set wA I 3 _) (fun e => by have := HPI.out; have e : P = I := e; omega), T9.out.st (st_set wA I 3 _) (fun k hk e => by have := HIN.out; have := HRL.out; have := HR9.out; have e : k = I := e; omega), Z9.out.put (Nat.le_of_lt HIN.out) 3 _, Lib.hid ⟨?_, ?_, ?_⟩⟩
          · rw [HREL.out.1, drop_tail]
          · rw [HREL.out.2.1, show rdB 2 ts.tail = _ from rdB_snoc 1 ts.tail, ← HREL.out.1, Bool.or_assoc]
          · refine HREL.out.2.2.two ?_
            have := HM9.out
            rw [HREL.out.1] at this
            exact this
        case measure => simp [intOf]; omega
      · obtain rfl : k = 2 := by omega
        have hkn : (((2 : Nat) : Int)) < (n : Int) := by omega
        have pc := cell_of_row wr P 2 _ 126 (0, 0) P0.out
        have dn : decide ((((2 : Nat) : Int)) < (n : Int)) = true := by rw [decide_eq_true_eq]; exact hkn
        clear x0 y0
        go_wp2_with fail
        have C := register98 wr r ts' bad' R0.out HSX.out HR9.out T0.out
        refine C.mono ?_
        clear C
        rintro e wA ⟨n9, rfl, i9, m9, r9, s9⟩
        have HM9 := Lib.hid m9
        have R9 := Lib.hid r9
        have Z9 := Lib.hid (Z0.out.trans s9)
        have X9 := Lib.hid (X0.out.st s9 (isB_new HRL.out (Nat.le_refl _)))
        have Y9 := Lib.hid (Y0.out.st s9 (fun e => HRI.out e.symm))
        have T9 := Lib.hid (T0.out.st s9 HF.out)
        have P9 := Lib.hid (P0.out.st s9 (fun e => by have := HRL.out; have := HPW.out; have e : P = r := e; omega))
        clear m9 r9 s9 i9
        have y9 := Y9.out.x.2.2.2.2.1
        have f9 : wA.frozen? ⟨I, 4, none⟩ = false := by simp [World.frozen?, show wA.heap[I]? = _ from Y9.out]
        go_wp2_with fail
        go_roundw
        case rel =>
          refine ⟨3, _, _, _, by go_num, by omega, R9.out.ins Y9.out HRI.out 4 _, Y9.out.setc _, X9.out.st (st_set wA I 4 _) (fun e => by have := HIN.out; have e : w.heap.size = I := e; omega), P9.out.st (st_set wA I 4 _) (fun e => by have := HPI.out; have e : P = I := e; omega), T9.out.st (st_set wA I 4 _) (fun k hk e => by have := HIN.out; have := HRL.out; have := HR9.out; have e : k = I := e; omega), Z9.out.put (Nat.le_of_lt HIN.out) 4 _, Lib.hid ⟨?_, ?_, ?_⟩⟩
          · rw [HREL.out.1, drop_tail]
          · rw [HREL.out.2.1, show rdB 3 ts.tail = _ from rdB_snoc 2 ts.tail, ← HREL.out.1, Bool.or_assoc]
          · refine HREL.out.2.2.three ?_
            have := HM9.out
            rw [HREL.out.1] at this
            exact this
        case measure => simp [intOf]; omega
    · obtain rfl : k = n := by omega
      have dn : decide ((k : Int) < (k : Int)) = false := by rw [decide_eq_false_iff_not]; omega
      have HI2 := Lib.hid (HINO.out _ _ HM4.out HREL.out.2.2)
      have HT1 := Lib.hid HREL.out.1
      have HB1 := Lib.hid HREL.out.2.1
      obtain ⟨d0, d1, d2, d3, d4, d5⟩ := y0.x
      obtain ⟨e0, e1, e2, e3, e4, e5⟩ := x0.x
      have ff : ∀ j, wr.frozen? ⟨w.heap.size, j, none⟩ = false := fun j => by simp [World.frozen?, show wr.heap[w.heap.size]? = _ from X0.out]
      have f0 := ff 0
      have f1 := ff 1
      have f2 := ff 2
      have f3 := ff 3
      have f4 := ff 4
      have f5 := ff 5
      clear ff x0 y0
      go_wp2_with fail
      clear d0 d1 d2 d3 d4 d5 e0 e1 e2 e3 e4 e5 f0 f1 f2 f3 f4 f5
      have HS6 := Lib.hid (six_all R0.out X0.out (show r ≠ w.heap.size from by have := HRL.out; omega) Z0.out (Nat.le_refl _) i)
      unfold six at HS6
      try dsimp only at HS6
      generalize HW : (((((wr.setCell ⟨w.heap.size, 0, none⟩ _).setCell ⟨w.heap.size, 1, none⟩ _).setCell ⟨w.heap.size, 2, none⟩ _).setCell ⟨w.heap.size, 3, none⟩ _).setCell ⟨w.heap.size, 4, none⟩ _).setCell ⟨w.heap.size, 5, none⟩ _ = wE at HS6 ⊢
      clear HW
      obtain ⟨g0, g1, g2, g3, g4, g5⟩ := HS6.out.2.1.x
      refine bodyPost_ret (v := av i) (by simp [results, Tryz.results80, go_sem, g0, g1, g2, g3, g4, g5, av]) rfl ?_
      exact ⟨_, _, _, rfl, HS6.out.1, (by rw [HT1.out, HB1.out]; exact HI2.out), HS6.out.2.2⟩
theorem ins80 (w : World) (r : Nat) (ts : List ByteArray) (bad : Bool) (h : RS w r ts bad) (hs : Sm ts) (hr : 9 ≤ r) (ht : Tb w) (hne : ts ≠ []) :
    Calls Tryz.prog 80 #[.pointer (some ⟨r, 0, none⟩)] w (InP w r ts bad) := by
  cases ts with
  | nil => exact absurd rfl hne
  | cons t ts =>
    cases ho : ofL (bl t) with
    | none => exact ins80_0 w r t ts bad h hs hr ht false (ofV_none ho) (ino_none ho)
    | some op =>
      have hl := (ofL_lt ho).1
      by_cases h0 : op = 0
      · subst h0
        exact ins80_0 w r t ts bad h hs hr ht true (ofV_some ho) (ino_nop ho)
      · by_cases h1 : op = 1
        · subst h1
          exact ins80_1 w r t ts bad h hs hr ht ho
        · have hc := srcs_cases (op : Int)
          have hn : srcs (op : Int) ≠ -1 := by
            unfold srcs
            (repeat' split) <;> omega
          obtain ⟨n, hsr⟩ : ∃ n : Nat, srcs (op : Int) = (n : Int) := ⟨(srcs (op : Int)).toNat, by omega⟩
          exact ins80_2 w r t ts bad h hs hr ht op n ho (by omega) (by omega) hsr (by unfold dfB; exact decide_eq_true (by omega))
end Go.Proofs.YtneidfbgdgegjaaGreatDoor
