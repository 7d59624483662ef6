/- The reader: numbers, registers, immediates. -/
import Derived.Test.YtneidfbgdgegjaaGreatDoorRA
import Derived.Test.YtneidfbgdgegjaaGreatDoorDI
namespace Go.Proofs.YtneidfbgdgegjaaGreatDoor
open Go.RowKit
set_option linter.unusedVariables false
set_option linter.unusedSimpArgs false
/-- how a numeral is taken -/
theorem num_cases (l : List UInt8) : (∃ n : Int, resI (parseI l) = .tuple #[.int .i64 n, .int .i64 0] ∧ 0 ≤ n ∧ In64 n ∧ whO l = some n) ∨
    (∃ n : Int, resI (parseI l) = .tuple #[.int .i64 n, .int .i64 0] ∧ n < 0 ∧ In64 n ∧ whO l = none) ∨
    (∃ c : Int, resI (parseI l) = .tuple #[.int .i64 0, .int .i64 c] ∧ c ≠ 0 ∧ whO l = none) := by
  have h := wh_parseI l
  cases hp : parseI l with
  | ok n =>
    rw [hp] at h
    dsimp only at h
    by_cases h0 : 0 ≤ n
    · rw [if_pos h0] at h
      exact .inl ⟨n, rfl, h0, parseI_in hp, h⟩
    · rw [if_neg h0] at h
      exact .inr (.inl ⟨n, rfl, by omega, parseI_in hp, h⟩)
  | «syntax» => rw [hp] at h; exact .inr (.inr ⟨6, rfl, by decide, h⟩)
  | range => rw [hp] at h; exact .inr (.inr ⟨2, rfl, by decide, h⟩)
theorem in64_0 : In64 0 := ⟨by omega, by omega⟩
/-- a number comes back, the right one if there is one -/
def NP (w : World) (r : Nat) (ts : List ByteArray) (bad : Bool) (o : Option Int) (e : Ending) (w' : World) : Prop :=
  ∃ n : Int, e = .returned (.int .i64 n) ∧ In64 n ∧ (∀ m, o = some m → n = m) ∧ RS w' r ts (bad || o.isNone) ∧ St (isB r) w w'
set_option maxRecDepth 100000 in
set_option maxHeartbeats 1000000 in
theorem number97 (w : World) (r : Nat) (ts : List ByteArray) (bad : Bool) (h : RS w r ts bad) (s : ByteArray) (hs : s.size ≤ 1000000) (ht : Tb w) :
    Calls Tryz.prog 97 #[.pointer (some ⟨r, 0, none⟩), .string s] w (NP w r ts bad (whO (bl s))) := by
  have H110 := pint18 s hs w ht
  have H := Lib.hid h
  clear h ht
  rcases num_cases (bl s) with ⟨n, h1, h2, h3, h4⟩ | ⟨n, h1, h2, h3, h4⟩ | ⟨c, h1, h2, h3⟩
  · rw [h1] at H110
    have HV := Lib.hid h4
    have HI := Lib.hid h3
    have R := Lib.hid (fun (W : World) (hW : RS W r ts bad) => require78 W r ts bad hW true)
    clear h1 h4 h3
    go_enter Tryz.func97, Tryz.ntmps97
    go_wp2_with fail
    refine H110.mono ?_
    rintro e w1 ⟨rfl, b1⟩
    have K1 := Lib.hid b1
    clear b1
    go_wp2_with fail
    have C := R.out w1 (H.out.keep K1.out)
    refine C.mono ?_
    clear C
    rintro e w2 ⟨rfl, r2, s2⟩
    have R2 := Lib.hid r2
    have S2 := Lib.hid s2
    clear r2 s2
    go_wp2_with fail
    go_ret
    exact ⟨n, rfl, HI.out, (fun m e => by rw [HV.out] at e; cases e; rfl), (by rw [HV.out]; exact R2.out), (St.bk K1.out).trans S2.out⟩
  · rw [h1] at H110
    have HV := Lib.hid h4
    have HI := Lib.hid h3
    have hd : decide (0 ≤ n) = false := by rw [decide_eq_false_iff_not]; omega
    have R := Lib.hid (fun (W : World) (hW : RS W r ts bad) => require78 W r ts bad hW false)
    clear h1 h4 h3
    go_enter Tryz.func97, Tryz.ntmps97
    go_wp2_with fail
    refine H110.mono ?_
    rintro e w1 ⟨rfl, b1⟩
    have K1 := Lib.hid b1
    clear b1
    go_wp2_with fail
    have C := R.out w1 (H.out.keep K1.out)
    refine C.mono ?_
    clear C
    rintro e w2 ⟨rfl, r2, s2⟩
    have R2 := Lib.hid r2
    have S2 := Lib.hid s2
    clear r2 s2
    go_wp2_with fail
    go_ret
    exact ⟨n, rfl, HI.out, (fun m e => by rw [HV.out] at e; cases e), (by rw [HV.out]; exact R2.out), (St.bk K1.out).trans S2.out⟩
  · rw [h1] at H110
    have HV := Lib.hid h3
    have hc : (c == 0) = false := by rw [beq_eq_false_iff_ne]; exact h2
    have R := Lib.hid (fun (W : World) (hW : RS W r ts bad) => require78 W r ts bad hW false)
    clear h1 h3 h2
    go_enter Tryz.func97, Tryz.ntmps97
    go_wp2_with fail
    refine H110.mono ?_
    rintro e w1 ⟨rfl, b1⟩
    have K1 := Lib.hid b1
    clear b1
    go_wp2_with fail
    have C := R.out w1 (H.out.keep K1.out)
    refine C.mono ?_
    clear C
    rintro e w2 ⟨rfl, r2, s2⟩
    have R2 := Lib.hid r2
    have S2 := Lib.hid s2
    clear r2 s2
    go_wp2_with fail
    go_ret
    exact ⟨0, rfl, in64_0, (fun m e => by rw [HV.out] at e; cases e), (by rw [HV.out]; exact R2.out), (St.bk K1.out).trans S2.out⟩
theorem gPow : Tryz.prog.globalNamed "internal/strconv.uint64pow10" = some 2 := by kernel_rfl
theorem Tb.st {F : Nat → Prop} {w w' : World} (h : Tb w) (s : St F w w') (hF : ∀ k, k < 9 → ¬ F k) : Tb w' := by
  have h9 : ∀ k, k < 9 → k < w.heap.size → w'.heap[k]? = w.heap[k]? := fun k hk hl => s.block k hl (hF k hk)
  obtain ⟨tp, p, h3⟩ := h.rng
  refine ⟨?_, ⟨tp, p, ?_⟩, ?_⟩
  · have h1 := h.pow
    unfold Lib.TabIs World.var? at *
    simp only [gPow, Option.bind_some] at h1 ⊢
    have hlt : 2 < w.heap.size := by
      rcases Nat.lt_or_ge 2 w.heap.size with h' | h'
      · exact h'
      · rw [Array.getElem?_eq_none h'] at h1; simp at h1
    rw [h9 2 (by omega) hlt]
    exact h1
  · rw [cell_at (h9 8 (by omega) (World.block_lt_of_cell? w _ h3))]; exact h3
  · obtain ⟨t, fr, h4⟩ := h.nms
    exact ⟨t, fr, (h9 0 (by omega) (Array.getElem?_eq_some_iff.1 h4).1).trans h4⟩
/-- fields of sizes that can be spoken of -/
def Sm (ts : List ByteArray) : Prop := ∀ t ∈ ts, t.size ≤ 1000000
theorem Sm.hd {ts : List ByteArray} (h : Sm ts) : (hdB ts).size ≤ 1000000 := by
  cases ts with
  | nil => exact Nat.zero_le _
  | cons t ts => exact h t (by simp)
theorem Sm.tl {ts : List ByteArray} (h : Sm ts) : Sm ts.tail := fun t ht => h t (List.mem_of_mem_tail ht)
set_option maxRecDepth 100000 in
set_option maxHeartbeats 1000000 in
theorem register98 (w : World) (r : Nat) (ts : List ByteArray) (bad : Bool) (h : RS w r ts bad) (hs : Sm ts) (hr : 9 ≤ r) (ht : Tb w) :
    Calls Tryz.prog 98 #[.pointer (some ⟨r, 0, none⟩)] w (NP w r ts.tail bad (regO (bl (hdB ts)))) := by
  have HN := next96 w r ts bad h
  have HT := Lib.hid ht
  have HSZ := Lib.hid hs.hd
  have H97 := Lib.hid (fun (W : World) (b : Bool) (s : ByteArray) (hW : RS W r ts.tail b) (hz : s.size ≤ 1000000) (hT : Tb W) => number97 W r ts.tail b hW s hz hT)
  have HR := Lib.hid hr
  clear h ht hs hr
  generalize hdB ts = t at HN HSZ ⊢
  by_cases hp : (bl t).take 1 = [114]
  · have HC := fun w => cut29_yes t ⟨#[114]⟩ hp w
    have HV := Lib.hid (show regO (bl t) = whO (bl ⟨((bl t).drop 1).toArray⟩) by
      rw [bl_drop]
      generalize bl t = l at hp
      cases l with
      | nil => cases hp
      | cons c l =>
        have hc : c = 114 := by simpa using hp
        subst hc
        show (if (114 : UInt8) = 114 then whO l else none) = _
        rw [if_pos rfl]; rfl)
    have HZ2 := Lib.hid (show (⟨((bl t).drop 1).toArray⟩ : ByteArray).size ≤ 1000000 by
      have := HSZ.out
      show ((bl t).drop 1).length ≤ 1000000
      rw [List.length_drop, bl_len]; omega)
    clear hp
    show Calls Tryz.prog 98 #[.pointer (some ⟨r, 0, none⟩)] w (NP w r ts.tail bad (regO (bl t)))
    rw [HV.out]
    have HC : ∀ w, Calls Tryz.prog 111 #[.string t, .string ⟨#[114]⟩] w fun e w' => e = .returned (.tuple #[.string ⟨((bl t).drop 1).toArray⟩, .bool true]) ∧ w' = w := HC
    generalize (⟨((bl t).drop 1).toArray⟩ : ByteArray) = u at HC HZ2 ⊢
    clear HV
    go_enter Tryz.func98, Tryz.ntmps98
    go_wp2_with fail
    refine HN.mono ?_
    rintro e w1 ⟨rfl, r1, s1⟩
    have R1 := Lib.hid r1
    have S1 := Lib.hid s1
    clear r1 s1
    go_wp2_with fail
    refine (HC _).mono ?_
    rintro e w2 ⟨rfl, rfl⟩
    go_wp2_with fail
    refine (require78 w2 r ts.tail bad R1.out true).mono ?_
    rintro e w3 ⟨rfl, r3, s3⟩
    have R3 := Lib.hid (show RS w3 r ts.tail bad by simpa using r3)
    have S3 := Lib.hid (S1.out.trans s3)
    clear r3 s3
    go_wp2_with fail
    have C := H97.out w3 bad u R3.out HZ2.out (HT.out.st S3.out (fun k hk e => by have := HR.out; have e : k = r := e; omega))
    refine C.mono ?_
    clear C
    rintro e w4 ⟨n, rfl, hi, hm, r4, s4⟩
    have R4 := Lib.hid r4
    have S4 := Lib.hid (S3.out.trans s4)
    have HM := Lib.hid hm
    have HI := Lib.hid hi
    clear r4 s4 hm hi
    go_wp2_with fail
    go_ret
    exact ⟨n, rfl, HI.out, HM.out, R4.out, S4.out⟩
  · have HC : ∀ w, Calls Tryz.prog 111 #[.string t, .string ⟨#[114]⟩] w fun e w' => e = .returned (.tuple #[.string t, .bool false]) ∧ w' = w := fun w => cut29_no t ⟨#[114]⟩ hp w
    have HV := Lib.hid (show regO (bl t) = none by
      generalize bl t = l at hp
      cases l with
      | nil => rfl
      | cons c l =>
        show (if c = 114 then whO l else none) = none
        rw [if_neg]
        intro hc
        subst hc
        exact hp rfl)
    clear hp
    show Calls Tryz.prog 98 #[.pointer (some ⟨r, 0, none⟩)] w (NP w r ts.tail bad (regO (bl t)))
    rw [HV.out]
    clear HV
    go_enter Tryz.func98, Tryz.ntmps98
    go_wp2_with fail
    refine HN.mono ?_
    rintro e w1 ⟨rfl, r1, s1⟩
    have R1 := Lib.hid r1
    have S1 := Lib.hid s1
    clear r1 s1
    go_wp2_with fail
    refine (HC _).mono ?_
    rintro e w2 ⟨rfl, rfl⟩
    go_wp2_with fail
    refine (require78 w2 r ts.tail bad R1.out false).mono ?_
    rintro e w3 ⟨rfl, r3, s3⟩
    have R3 := Lib.hid (show RS w3 r ts.tail true by simpa using r3)
    have S3 := Lib.hid (S1.out.trans s3)
    clear r3 s3
    go_wp2_with fail
    have C := H97.out w3 true t R3.out HSZ.out (HT.out.st S3.out (fun k hk e => by have := HR.out; have e : k = r := e; omega))
    refine C.mono ?_
    clear C
    rintro e w4 ⟨n, rfl, hi, hm, r4, s4⟩
    have R4 := Lib.hid (show RS w4 r ts.tail true by simpa using r4)
    have S4 := Lib.hid (S3.out.trans s4)
    have HI := Lib.hid hi
    clear r4 s4 hi hm
    go_wp2_with fail
    go_ret
    exact ⟨n, rfl, HI.out, (fun m e => by cases e), (by simpa using R4.out), S4.out⟩
/-- how an immediate is taken -/
theorem imm_cases (l : List UInt8) : (∃ n : Nat, resU (parseS l) = .tuple #[.int .u64 (n : Int), .int .i64 0] ∧ n < 18446744073709551616 ∧ wrn 10 n = l ∧ decO l = some n) ∨
    (∃ n : Nat, resU (parseS l) = .tuple #[.int .u64 (n : Int), .int .i64 0] ∧ n < 18446744073709551616 ∧ wrn 10 n ≠ l ∧ decO l = none) ∨
    (∃ c : Int, resU (parseS l) = .tuple #[.int .u64 0, .int .i64 c] ∧ c ≠ 0 ∧ decO l = none) := by
  have h := dec_parseS l
  cases hp : parseS l with
  | ok n =>
    have hx : n < 18446744073709551616 := by
      unfold parseS at hp
      split at hp
      · exact (numE_ok hp).2.2
      · exact (numE_ok hp).2.2
    rw [hp] at h
    dsimp only at h
    by_cases h0 : wrn 10 n = l
    · rw [if_pos h0] at h
      exact .inl ⟨n, rfl, hx, h0, h⟩
    · rw [if_neg h0] at h
      exact .inr (.inl ⟨n, rfl, hx, h0, h⟩)
  | «syntax» => rw [hp] at h; exact .inr (.inr ⟨6, rfl, by decide, h⟩)
  | range => rw [hp] at h; exact .inr (.inr ⟨2, rfl, by decide, h⟩)
def U64 (n : Nat) : Prop := n < 18446744073709551616
theorem u64_0 : U64 0 := by unfold U64; omega
def IP64 (w : World) (r : Nat) (ts : List ByteArray) (bad : Bool) (o : Option Nat) (e : Ending) (w' : World) : Prop :=
  ∃ n : Nat, e = .returned (.int .u64 (n : Int)) ∧ U64 n ∧ (∀ m, o = some m → n = m) ∧ RS w' r ts (bad || o.isNone) ∧ St (isB r) w w'
theorem str_eqB (s t : ByteArray) (h : s = t) : (s.toList == t.toList) = true := by subst h; simp
theorem str_neB {s t : ByteArray} (h : s ≠ t) : (s.toList == t.toList) = false := by
  rw [beq_eq_false_iff_ne, ByteArray.toList_eq, ByteArray.toList_eq]
  exact fun e => h (bl_inj e)
set_option maxRecDepth 100000 in
set_option maxHeartbeats 1000000 in
theorem immediate99 (w : World) (r : Nat) (ts : List ByteArray) (bad : Bool) (h : RS w r ts bad) (hs : Sm ts) (hr : 9 ≤ r) (ht : Tb w) :
    Calls Tryz.prog 99 #[.pointer (some ⟨r, 0, none⟩)] w (IP64 w r ts.tail bad (decO (bl (hdB ts)))) := by
  have HN := next96 w r ts bad h
  have HT := Lib.hid ht
  have HSZ := Lib.hid hs.hd
  have HR := Lib.hid hr
  clear h ht hs hr
  generalize hdB ts = t at HN HSZ ⊢
  have H112 := Lib.hid (fun (W : World) (hT : Tb W) => parse16 t HSZ.out W hT)
  rcases imm_cases (bl t) with ⟨n, h1, h2, h3, h4⟩ | ⟨n, h1, h2, h3, h4⟩ | ⟨c, h1, h2, h3⟩
  · rw [h1] at H112
    have HV := Lib.hid h4
    have HU := Lib.hid (show U64 n from h2)
    have HD := Lib.hid (fun (W : World) (hT : Tb W) => dec72 n h2 W hT)
    have he := str_eqB (⟨(wrn 10 n).toArray⟩ : ByteArray) t (bl_inj h3)
    clear h1 h2 h3 h4
    generalize (⟨(wrn 10 n).toArray⟩ : ByteArray) = u at HD he
    go_enter Tryz.func99, Tryz.ntmps99
    go_wp2_with fail
    refine HN.mono ?_
    rintro e w1 ⟨rfl, r1, s1⟩
    have R1 := Lib.hid r1
    have S1 := Lib.hid s1
    clear r1 s1
    have T1 := Lib.hid (HT.out.st S1.out (fun k hk e => by have := HR.out; have e : k = r := e; omega))
    go_wp2_with fail
    have C := H112.out w1 T1.out
    refine C.mono ?_
    clear C
    rintro e w2 ⟨rfl, b2⟩
    have R2 := Lib.hid (R1.out.keep b2)
    have S2 := Lib.hid (S1.out.trans (St.bk b2))
    have T2 := Lib.hid (T1.out.keep b2)
    clear b2
    go_wp2_with fail
    have C := HD.out w2 T2.out
    refine C.mono ?_
    clear C
    rintro e w3 ⟨rfl, b3⟩
    have R3 := Lib.hid (R2.out.keep b3)
    have S3 := Lib.hid (S2.out.trans (St.bk b3))
    clear b3
    go_wp2_with fail
    refine (require78 w3 r ts.tail bad R3.out true).mono ?_
    rintro e w4 ⟨rfl, r4, s4⟩
    have R4 := Lib.hid r4
    have S4 := Lib.hid (S3.out.trans s4)
    clear r4 s4
    go_wp2_with fail
    go_ret
    exact ⟨n, rfl, HU.out, (fun m e => by rw [HV.out] at e; cases e; rfl), (by rw [HV.out]; exact R4.out), S4.out⟩
  · rw [h1] at H112
    have HV := Lib.hid h4
    have HU := Lib.hid (show U64 n from h2)
    have HD := Lib.hid (fun (W : World) (hT : Tb W) => dec72 n h2 W hT)
    have he := str_neB (s := (⟨(wrn 10 n).toArray⟩ : ByteArray)) (t := t) (fun e => h3 (by rw [← e]))
    clear h1 h2 h3 h4
    generalize (⟨(wrn 10 n).toArray⟩ : ByteArray) = u at HD he
    go_enter Tryz.func99, Tryz.ntmps99
    go_wp2_with fail
    refine HN.mono ?_
    rintro e w1 ⟨rfl, r1, s1⟩
    have R1 := Lib.hid r1
    have S1 := Lib.hid s1
    clear r1 s1
    have T1 := Lib.hid (HT.out.st S1.out (fun k hk e => by have := HR.out; have e : k = r := e; omega))
    go_wp2_with fail
    have C := H112.out w1 T1.out
    refine C.mono ?_
    clear C
    rintro e w2 ⟨rfl, b2⟩
    have R2 := Lib.hid (R1.out.keep b2)
    have S2 := Lib.hid (S1.out.trans (St.bk b2))
    have T2 := Lib.hid (T1.out.keep b2)
    clear b2
    go_wp2_with fail
    have C := HD.out w2 T2.out
    refine C.mono ?_
    clear C
    rintro e w3 ⟨rfl, b3⟩
    have R3 := Lib.hid (R2.out.keep b3)
    have S3 := Lib.hid (S2.out.trans (St.bk b3))
    clear b3
    go_wp2_with fail
    refine (require78 w3 r ts.tail bad R3.out false).mono ?_
    rintro e w4 ⟨rfl, r4, s4⟩
    have R4 := Lib.hid r4
    have S4 := Lib.hid (S3.out.trans s4)
    clear r4 s4
    go_wp2_with fail
    go_ret
    exact ⟨n, rfl, HU.out, (fun m e => by rw [HV.out] at e; cases e), (by rw [HV.out]; exact R4.out), S4.out⟩
  · rw [h1] at H112
    have HV := Lib.hid h3
    have hc : (c == 0) = false := by rw [beq_eq_false_iff_ne]; exact h2
    clear h1 h2 h3
    go_enter Tryz.func99, Tryz.ntmps99
    go_wp2_with fail
    refine HN.mono ?_
    rintro e w1 ⟨rfl, r1, s1⟩
    have R1 := Lib.hid r1
    have S1 := Lib.hid s1
    clear r1 s1
    have T1 := Lib.hid (HT.out.st S1.out (fun k hk e => by have := HR.out; have e : k = r := e; omega))
    go_wp2_with fail
    have C := H112.out w1 T1.out
    refine C.mono ?_
    clear C
    rintro e w2 ⟨rfl, b2⟩
    have R2 := Lib.hid (R1.out.keep b2)
    have S2 := Lib.hid (S1.out.trans (St.bk b2))
    clear b2
    go_wp2_with fail
    refine (require78 w2 r ts.tail bad R2.out false).mono ?_
    rintro e w4 ⟨rfl, r4, s4⟩
    have R4 := Lib.hid r4
    have S4 := Lib.hid (S2.out.trans s4)
    clear r4 s4
    go_wp2_with fail
    go_ret
    exact ⟨0, rfl, u64_0, (fun m e => by rw [HV.out] at e; cases e), (by rw [HV.out]; exact R4.out), S4.out⟩
end Go.Proofs.YtneidfbgdgegjaaGreatDoor
