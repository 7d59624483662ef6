/- The law of the keys, walked. -/
import Derived.Test.YtclefcjojlkcnaaDoorT
import Derived.Test.YtclefcjojlkcnaaDoorP
namespace Go.Proofs.YtclefcjojlkcnaaDoor
open Go.RowKit
set_option linter.unusedVariables false
set_option linter.unusedSimpArgs false
theorem few_nm {n : Nat} {nm : ByteArray} (h : fewB n nm = true) (hs : nm.size ≤ maxLen) : nm.size ≤ 1000000 := by
  unfold fewB at h
  unfold maxLen at hs
  have := (Bool.and_eq_true _ _ ▸ h).2
  have h2 := of_decide_eq_true this
  rw [IntWalk.wrap64_in _ ⟨by omega, by omega⟩] at h2
  omega
theorem sdef {w' : World} {b1 b2 : Nat} {x0 x1 x2 x3 x4 y0 y1 y2 y3 y4 : Value} (h : B5 w' b1 x0 x1 x2 x3 x4 ∧ B5 w' b2 y0 y1 y2 y3 y4) : w'.cell? ⟨b1, 0, none⟩ = some x0 ∧ w'.cell? ⟨b1, 1, none⟩ = some x1 ∧ w'.cell? ⟨b1, 2, none⟩ = some x2 ∧ w'.cell? ⟨b1, 3, none⟩ = some x3 ∧ w'.cell? ⟨b1, 4, none⟩ = some x4 ∧ w'.cell? ⟨b2, 0, none⟩ = some y0 ∧ w'.cell? ⟨b2, 1, none⟩ = some y1 ∧ w'.cell? ⟨b2, 2, none⟩ = some y2 ∧ w'.cell? ⟨b2, 3, none⟩ = some y3 ∧ w'.cell? ⟨b2, 4, none⟩ = some y4 := by
  obtain ⟨⟨a0, a1, a2, a3, a4⟩, b0, b1, b2, b3, b4⟩ := h
  exact ⟨a0, a1, a2, a3, a4, b0, b1, b2, b3, b4⟩
/-- the numbers of a node, read by any world -/
structure Nv (op wd : Int) (vl : Nat) (nm : ByteArray) (zs : List Int) : Prop where
  o : In64 op
  d : In64 wd
  v : vl < 18446744073709551616
  s : nm.size ≤ maxLen
  z : ∀ k, In64 (zs.getD k 0)
theorem Nv.nd {op wd : Int} {vl : Nat} {nm : ByteArray} {zs : List Int} {w : World} {p : Option Addr} (h : Nv op wd vl nm zs) (hf : fewB zs.length nm = true) (hr : Ra w p zs) : Nd w op wd vl nm p zs :=
  ⟨h.o, h.d, h.v, few_nm hf h.s, few_len hf, h.z, hr⟩
set_option maxRecDepth 100000 in
set_option maxHeartbeats 2000000 in
theorem keys_law (opa wda : Int) (vla : Nat) (nma : ByteArray) (pa : Option Addr) (ca : Nat) (zsa : List Int) (opb wdb : Int) (vlb : Nat) (nmb : ByteArray) (pb : Option Addr) (cb : Nat) (zsb : List Int) (w : World) (va : Nv opa wda vla nma zsa) (ha : Ra w pa zsa) (vb : Nv opb wdb vlb nmb zsb) (hb : Ra w pb zsb) (na : pa = none → ca = 0) (ht : Tb w) :
    Calls Tryd.prog 5 #[.agg #[.int .i64 opa, .int .i64 wda, .int .u64 vla, .string nma, .slice pa zsa.length ca], .agg #[.int .i64 opb, .int .i64 wdb, .int .u64 vlb, .string nmb, .slice pb zsb.length cb]] w fun e w' => e = .returned (.bool true) ∧ BK w w' := by
  have hk0 : BK w ((w.alloc (.cells #[.int .i64 opa, .int .i64 wda, .int .u64 vla, .string nma, .slice pa zsa.length ca] 26)).alloc (.cells #[.int .i64 opb, .int .i64 wdb, .int .u64 vlb, .string nmb, .slice pb zsb.length cb] 26)) := bk_alloc (bk_alloc (BK.refl w) _) _
  have hxa := (b5_new w (.int .i64 opa) (.int .i64 wda) (.int .u64 vla) (.string nma) (.slice pa zsa.length ca) 26).keep (bk_alloc (BK.refl _) (.cells #[.int .i64 opb, .int .i64 wdb, .int .u64 vlb, .string nmb, .slice pb zsb.length cb] 26)) (by simp)
  have hxb := b5_new (w.alloc (.cells #[.int .i64 opa, .int .i64 wda, .int .u64 vla, .string nma, .slice pa zsa.length ca] 26)) (.int .i64 opb) (.int .i64 wdb) (.int .u64 vlb) (.string nmb) (.slice pb zsb.length cb) 26
  have hsz : ((w.alloc (.cells #[.int .i64 opa, .int .i64 wda, .int .u64 vla, .string nma, .slice pa zsa.length ca] 26)).alloc (.cells #[.int .i64 opb, .int .i64 wdb, .int .u64 vlb, .string nmb, .slice pb zsb.length cb] 26)).heap.size = w.heap.size + 2 := by simp
  have hra := ha.keep hk0
  have hrb := hb.keep hk0
  rw [show (w.alloc (.cells #[.int .i64 opa, .int .i64 wda, .int .u64 vla, .string nma, .slice pa zsa.length ca] 26)).heap.size = w.heap.size + 1 by simp] at hxb
  clear ha hb
  have HT := Lib.hid (ht.keep hk0)
  clear ht
  go_enter Tryd.func5, Tryd.ntmps5
  go_wp2_with fail
  generalize (w.alloc (.cells #[.int .i64 opa, .int .i64 wda, .int .u64 vla, .string nma, .slice pa zsa.length ca] 26)).alloc (.cells #[.int .i64 opb, .int .i64 wdb, .int .u64 vlb, .string nmb, .slice pb zsb.length cb] 26) = w0 at hk0 hxa hxb hsz hra hrb HT ⊢
  have KC := Lib.hid (fun wc (hb : BK w0 wc) => And.intro (hxa.keep hb (by omega)) (hxb.keep hb (by omega)))
  have RA := Lib.hid (fun wc (hb : BK w0 wc) => hra.keep hb)
  have RB := Lib.hid (fun wc (hb : BK w0 wc) => hrb.keep hb)
  have HK0 := Lib.hid hk0
  have K0 := Lib.hid (BK.refl w0)
  clear hk0 hsz hra hrb
  obtain ⟨⟨x0, x1, x2, x3, x4⟩, ⟨y0, y1, y2, y3, y4⟩⟩ := And.intro hxa hxb
  clear hxa hxb
  refine (few11 opa wda vla nma pa _ ca _).mono ?_
  rintro e wa ⟨rfl, hb⟩
  have KA := Lib.hid (bk_tr K0.out hb)
  clear x0 x1 x2 x3 x4 y0 y1 y2 y3 y4 hb
  obtain ⟨⟨x0, x1, x2, x3, x4⟩, ⟨y0, y1, y2, y3, y4⟩⟩ := KC.out _ KA.out
  cases fa : fewB zsa.length nma with
  | false =>
    have F := Lib.hid fa
    clear fa
    go_wp2_with fail
    refine (live_any _ (HT.out.keep KA.out)).mono ?_
    rintro e w9 ⟨rfl, hb9⟩
    have H9 := Lib.hid (bk_tr KA.out hb9)
    clear hb9
    go_wp2_with fail
    go_ret
    exact ⟨rfl, bk_tr HK0.out H9.out⟩
  | true =>
    have GA := Lib.hid fa
    clear fa
    go_wp2_with fail
    refine (few11 opb wdb vlb nmb pb _ cb _).mono ?_
    rintro e wb ⟨rfl, hb⟩
    have K1 := Lib.hid (bk_tr KA.out hb)
    clear x0 x1 x2 x3 x4 y0 y1 y2 y3 y4 hb
    obtain ⟨⟨x0, x1, x2, x3, x4⟩, ⟨y0, y1, y2, y3, y4⟩⟩ := KC.out _ K1.out
    cases fb : fewB zsb.length nmb with
    | false =>
      have F := Lib.hid fb
      clear fb
      go_wp2_with fail
      refine (live_any _ (HT.out.keep K1.out)).mono ?_
      rintro e w9 ⟨rfl, hb9⟩
      have H9 := Lib.hid (bk_tr K1.out hb9)
      clear hb9
      go_wp2_with fail
      go_ret
      exact ⟨rfl, bk_tr HK0.out H9.out⟩
    | true =>
      have GB := Lib.hid fb
      clear fb
      have NA := Lib.hid (fun q wc (hr : Ra wc q zsa) => va.nd GA.out hr)
      have NB := Lib.hid (fun q wc (hr : Ra wc q zsb) => vb.nd GB.out hr)
      have C17 := Lib.hid (fun q c w5 (h5 : BK w0 w5) (hr : Ra w5 q zsa) => (key_any opa wda vla nma q c zsa w5 (HT.out.keep h5) (NA.out q w5 hr)).mono (fun e w6 h6 => And.intro h6.1 (And.intro (bk_tr h5 h6.2) h6.2)))
      have D17 := Lib.hid (fun w5 (h5 : BK w0 w5) => (key_any opb wdb vlb nmb pb cb zsb w5 (HT.out.keep h5) (NB.out pb w5 (RB.out _ h5))).mono (fun e w6 h6 => And.intro h6.1 (And.intro (bk_tr h5 h6.2) h6.2)))
      have C16 := Lib.hid (fun w5 (h5 : BK w0 w5) => (same16 opa wda vla opb wdb vlb nma nmb pa pb ca cb zsa zsb w5 (few_len GA.out) (few_len GB.out) (RA.out _ h5) (RB.out _ h5)).mono (fun e w6 h6 => And.intro h6.1 (bk_tr h5 h6.2)))
      have C18 := Lib.hid (fun w5 (h5 : BK w0 w5) => (refcopy_any opa wda vla nma pa ca zsa w5 (RA.out _ h5) (few_len GA.out) na).mono (fun e w6 ⟨q, d, h1, h2, h3⟩ => (⟨q, d, h1, Ra.own h2, bk_tr h5 h3⟩ : ∃ q d, e = Ending.returned (.agg #[.int .i64 opa, .int .i64 wda, .int .u64 vla, .string nma, .slice q zsa.length d]) ∧ Ra w6 q zsa ∧ BK w0 w6)))
      have C12 := Lib.hid (fun w5 (h5 : BK w0 w5) => (live_any w5 (HT.out.keep h5)).mono (fun e w6 h6 => And.intro h6.1 (bk_tr h5 h6.2)))
      have hk := key_cmp opa wda opb wdb vla vlb nma nmb zsa zsb
      generalize (⟨(keyL opa wda vla nma zsa).toArray⟩ : ByteArray) = s1 at C17 hk
      generalize (⟨(keyL opb wdb vlb nmb zsb).toArray⟩ : ByteArray) = s2 at D17 hk
      generalize (cmpN opa wda vla opb wdb vlb nma nmb zsa zsb == 0) = rb at C16 hk
      clear x0 x1 x2 x3 x4 y0 y1 y2 y3 y4
      go_wp2_with fail
      go_region_held3 (fun w' => w'.cell? ⟨w.heap.size, 0, none⟩ = some (.int .i64 opa) ∧ w'.cell? ⟨w.heap.size, 1, none⟩ = some (.int .i64 wda) ∧ w'.cell? ⟨w.heap.size, 2, none⟩ = some (.int .u64 vla) ∧ w'.cell? ⟨w.heap.size, 3, none⟩ = some (.string nma) ∧ w'.cell? ⟨w.heap.size, 4, none⟩ = some (.slice pa zsa.length ca) ∧ w'.cell? ⟨w.heap.size + 1, 0, none⟩ = some (.int .i64 opb) ∧ w'.cell? ⟨w.heap.size + 1, 1, none⟩ = some (.int .i64 wdb) ∧ w'.cell? ⟨w.heap.size + 1, 2, none⟩ = some (.int .u64 vlb) ∧ w'.cell? ⟨w.heap.size + 1, 3, none⟩ = some (.string nmb) ∧ w'.cell? ⟨w.heap.size + 1, 4, none⟩ = some (.slice pb zsb.length cb))
        (exact sdef (KC.out _ (by first | assumption | exact bk_drew K1.out)))
        ((first
          | (go_at_call 12; with_reducible refine (C12.out _ hkF).mono ?_; rintro e w6 ⟨rfl, hkG⟩)
          | (go_at_call 17; with_reducible refine (C17.out qE dE _ hkE hqE).mono ?_; rintro e w6 ⟨rfl, hkF, _⟩)
          | (go_at_call 18; with_reducible refine (C18.out _ hkD).mono ?_; rintro e w6 ⟨qE, dE, rfl, hqE, hkE⟩)
          | (go_at_call 17; with_reducible refine (C17.out pa ca _ hkC (RA.out _ hkC)).mono ?_; rintro e w6 ⟨rfl, hkD, _⟩)
          | (go_at_call 16; with_reducible refine (C16.out _ hkB).mono ?_; rintro e w6 ⟨rfl, hkC⟩)
          | (go_at_call 17; with_reducible refine (D17.out _ hkA).mono ?_; rintro e w6 ⟨rfl, hkB, _⟩)
          | (go_at_call 17; with_reducible refine (C17.out pa ca _ (bk_drew K1.out) (RA.out _ (bk_drew K1.out))).mono ?_; rintro e w6 ⟨rfl, hkA, _⟩)))
      have HG := Lib.hid hkG
      clear hkA hkB hkC hkD hkE hkF hkG hqE
      go_wp2_with fail
      go_ret
      exact ⟨rfl, bk_tr HK0.out HG.out⟩
end Go.Proofs.YtclefcjojlkcnaaDoor
