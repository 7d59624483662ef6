/- The forest in memory: one block of fields, two rows, three maps. -/
import Derived.Test.YtpnjmkmobdaefaaA
namespace Go.Proofs.Ytpnjmkmobdaefaa
open Go.RowKit Go.Maps
set_option linter.unusedVariables false
set_option linter.unusedSimpArgs false
structure FO where
  f : Nat
  mu : Nat
  mo : Nat
  mb : Nat
  lv : Value
  sv : Value
  up : Int → Option Nat
  ov : Int → Option Int
  bl : Int → Option Int
  C : List Int
def FO.foot (o : FO) (k : Nat) : Prop := k = o.f ∨ k = o.mu ∨ k = o.mo ∨ k = o.mb ∨ o.lv.ownBlock = some k ∨ o.sv.ownBlock = some k
def upI (up : Int → Option Nat) : Int → Option Int := fun x => (up x).map (fun k : Nat => (k : Int))
theorem upI_put (up : Int → Option Nat) (x : Int) (k : Option Nat) : put1 (upI up) x (k.map (fun k : Nat => (k : Int))) = upI (upd up x k) := by
  funext y
  unfold upI
  by_cases e : y = x
  · subst e; rw [put1_same, upd_same]
  · rw [put1_other e, upd_other e]
def fields (f : Nat) (lv : Value) (mu mo mb : Nat) (sv : Value) : Array Value := #[.pointer (some ⟨f, 0, none⟩), lv, .map (some mu), .map (some mo), .map (some mb), sv]
structure FB (w : World) (B : Nat) (o : FO) (M : List L3) (N : Nat) : Prop where
  blk : w.heap[o.f]? = some (.cells (fields o.f o.lv o.mu o.mo o.mb o.sv) 52 (0, 0))
  links : w.ownsRow B 44 3 o.lv M.length (flat3 M)
  lost : w.ownsRow B 3 1 o.sv o.C.length (ints o.C)
  mup : MP w o.mu N (upI o.up)
  mov : MP w o.mo N o.ov
  mbl : MP w o.mb N o.bl
  n1 : o.mu ≠ o.mo
  n2 : o.mu ≠ o.mb
  n3 : o.mo ≠ o.mb
  l0 : B ≤ o.f
  l1 : B ≤ o.mu
  l2 : B ≤ o.mo
  l3 : B ≤ o.mb
  ok : ∀ l ∈ M, okI l.a ∧ okI l.b ∧ okI l.y
  okc : ∀ x ∈ o.C, okI x
/-- what a call leaves: outside the footprint all is as it was, and the new footprint is old or new memory -/
structure Step (w w' : World) (F F' : Nat → Prop) : Prop where
  os : w'.os = w.os
  tape : w'.tape = w.tape
  output : w'.output = w.output
  size : w.heap.size ≤ w'.heap.size
  block : ∀ k, k < w.heap.size → ¬ F k → w'.heap[k]? = w.heap[k]?
  sub : ∀ k, F' k → F k ∨ w.heap.size ≤ k
theorem Step.trans {a b c : World} {F G H : Nat → Prop} (h : Step a b F G) (k : Step b c G H) : Step a c F H :=
  ⟨k.os.trans h.os, k.tape.trans h.tape, k.output.trans h.output, Nat.le_trans h.size k.size,
   fun i hi hn => (k.block i (Nat.lt_of_lt_of_le hi h.size) (fun g => by rcases h.sub i g with q | q; exact hn q; omega)).trans (h.block i hi hn),
   fun i hi => by
    rcases k.sub i hi with q | q
    · exact h.sub i q
    · exact .inr (Nat.le_trans h.size q)⟩
theorem Step.refl (w : World) (F : Nat → Prop) : Step w w F F := ⟨rfl, rfl, rfl, Nat.le_refl _, fun _ _ _ => rfl, fun _ h => .inl h⟩
theorem Step.bk {w w' : World} {F : Nat → Prop} (h : BK w w') : Step w w' F F :=
  ⟨h.bl.os, h.bl.tape, h.bl.output, h.bl.size, fun k hk _ => h.bl.block k hk, fun _ h => .inl h⟩
theorem Step.below {w w' : World} {F F' : Nat → Prop} {B : Nat} (h : Step w w' F F') (hB : ∀ k, F k → B ≤ k) (hs : B ≤ w.heap.size) : Below B w w' :=
  ⟨h.os, h.tape, h.output, h.size, fun k hk => h.block k (by omega) (fun g => by have := hB k g; omega)⟩
/-- a step from an object made later than w0 leaves what lay in w0 -/
theorem Step.bk_new {w0 w w' : World} {F F' : Nat → Prop} (h : BK w0 w) (s : Step w w' F F') (hF : ∀ k, F k → w0.heap.size ≤ k) : BK w0 w' :=
  ⟨s.os.trans h.bl.os, s.tape.trans h.bl.tape, s.output.trans h.bl.output, Nat.le_trans h.bl.size s.size, fun k hk => (s.block k (Nat.lt_of_lt_of_le hk h.bl.size) (fun g => by have := hF k g; omega)).trans (h.bl.block k hk)⟩
theorem Step.low {w w' : World} {F F' : Nat → Prop} {B : Nat} (s : Step w w' F F') (hF : ∀ k, F k → B ≤ k) (hB : B ≤ w.heap.size) : ∀ k, F' k → B ≤ k := fun k hk => by
  rcases s.sub k hk with q | q
  · exact hF k q
  · omega
theorem FB.lo {w : World} {B : Nat} {o : FO} {M : List L3} {N : Nat} (h : FB w B o M N) : ∀ k, o.foot k → B ≤ k := by
  rintro k (e | e | e | e | e | e)
  · rw [e]; exact h.l0
  · rw [e]; exact h.l1
  · rw [e]; exact h.l2
  · rw [e]; exact h.l3
  · exact (h.links.lt k e).1
  · exact (h.lost.lt k e).1
theorem FB.lt {w : World} {B : Nat} {o : FO} {M : List L3} {N : Nat} (h : FB w B o M N) : ∀ k, o.foot k → k < w.heap.size := by
  rintro k (e | e | e | e | e | e)
  · rw [e]; exact (Array.getElem?_eq_some_iff.1 h.blk).1
  · rw [e]; exact h.mup.lt
  · rw [e]; exact h.mov.lt
  · rw [e]; exact h.mbl.lt
  · exact (h.links.lt k e).2
  · exact (h.lost.lt k e).2
theorem FB.keep {w w' : World} {B : Nat} {o : FO} {M : List L3} {N : Nat} (h : FB w B o M N) (hk : ∀ k, o.foot k → w'.heap[k]? = w.heap[k]?) : FB w' B o M N :=
  ⟨(hk _ (.inl rfl)).trans h.blk, own_at h.links fun k e => hk k (.inr (.inr (.inr (.inr (.inl e))))), own_at h.lost fun k e => hk k (.inr (.inr (.inr (.inr (.inr e))))),
   h.mup.at (hk _ (.inr (.inl rfl))), h.mov.at (hk _ (.inr (.inr (.inl rfl)))), h.mbl.at (hk _ (.inr (.inr (.inr (.inl rfl))))), h.n1, h.n2, h.n3, h.l0, h.l1, h.l2, h.l3, h.ok, h.okc⟩
theorem FB.bk {w w' : World} {B : Nat} {o : FO} {M : List L3} {N : Nat} (h : FB w B o M N) (hb : BK w w') : FB w' B o M N :=
  h.keep fun k hk => hb.bl.block k (h.lt k hk)
theorem FB.drew {w : World} {B : Nat} {o : FO} {M : List L3} {N : Nat} (h : FB w B o M N) : FB w.drew B o M N := h.keep fun _ _ => rfl
theorem FB.mono {w : World} {B : Nat} {o : FO} {M : List L3} {N N' : Nat} (h : FB w B o M N) (hn : N ≤ N') : FB w B o M N' :=
  ⟨h.blk, h.links, h.lost, h.mup.mono hn, h.mov.mono hn, h.mbl.mono hn, h.n1, h.n2, h.n3, h.l0, h.l1, h.l2, h.l3, h.ok, h.okc⟩
theorem FB.cell {w : World} {B : Nat} {o : FO} {M : List L3} {N : Nat} (h : FB w B o M N) (j : Nat) : w.cell? ⟨o.f, j, none⟩ = (fields o.f o.lv o.mu o.mo o.mb o.sv)[j]? := cell_of_row w _ _ _ 52 (0, 0) h.blk
theorem FB.k0 {w : World} {B : Nat} {o : FO} {M : List L3} {N : Nat} (h : FB w B o M N) : w.cell? ⟨o.f, 0, none⟩ = some (.pointer (some ⟨o.f, 0, none⟩)) := h.cell 0
theorem FB.k1 {w : World} {B : Nat} {o : FO} {M : List L3} {N : Nat} (h : FB w B o M N) : w.cell? ⟨o.f, 1, none⟩ = some o.lv := h.cell 1
theorem FB.k2 {w : World} {B : Nat} {o : FO} {M : List L3} {N : Nat} (h : FB w B o M N) : w.cell? ⟨o.f, 2, none⟩ = some (.map (some o.mu)) := h.cell 2
theorem FB.k3 {w : World} {B : Nat} {o : FO} {M : List L3} {N : Nat} (h : FB w B o M N) : w.cell? ⟨o.f, 3, none⟩ = some (.map (some o.mo)) := h.cell 3
theorem FB.k4 {w : World} {B : Nat} {o : FO} {M : List L3} {N : Nat} (h : FB w B o M N) : w.cell? ⟨o.f, 4, none⟩ = some (.map (some o.mb)) := h.cell 4
theorem FB.k5 {w : World} {B : Nat} {o : FO} {M : List L3} {N : Nat} (h : FB w B o M N) : w.cell? ⟨o.f, 5, none⟩ = some o.sv := h.cell 5
theorem FB.free {w : World} {B : Nat} {o : FO} {M : List L3} {N : Nat} (h : FB w B o M N) (j : Nat) : w.frozen? ⟨o.f, j, none⟩ = false := frozen_of_row w o.f j _ 52 h.blk
/-- the links' slice, where there is one -/
theorem FB.lform {w : World} {B : Nat} {o : FO} {M : List L3} {N : Nat} (h : FB w B o M N) (hM : 0 < M.length) : ∃ g c, o.lv = .slice (some ⟨g, 0, none⟩) M.length c := by
  obtain ⟨g, c, e, _, _⟩ := h.links.form hM
  exact ⟨g, c, e⟩
theorem FB.link {w : World} {B : Nat} {o : FO} {M : List L3} {N : Nat} (h : FB w B o M N) {k : Nat} {l : L3} (hl : M[k]? = some l) : ∃ g b c, o.lv = .slice (some ⟨g, b, none⟩) M.length c ∧ A3 w g (b + k * 3) l ∧ k < M.length := by
  obtain ⟨hk, e⟩ := List.getElem?_eq_some_iff.1 hl
  obtain ⟨g, c, hv⟩ := h.lform (by omega)
  have hr : RL w (some ⟨g, 0, none⟩) c M := RL.own (n := M.length) (by have := h.links; rw [hv] at this; exact this)
  obtain ⟨b, o', e1, e2⟩ := hr.get k hk
  cases e1
  exact ⟨g, 0, c, hv, by rw [e] at e2; exact e2, hk⟩
theorem turned_block {w w' : World} {b k : Nat} (ht : w.mapTurned w' b) (hk : k < w.heap.size) (hn : k ≠ b) : w'.heap[k]? = w.heap[k]? := ht.grown.block k hk (by simpa using hn)
theorem turned_step {w w' : World} {b : Nat} (ht : w.mapTurned w' b) {F : Nat → Prop} (hF : F b) : Step w w' F F :=
  ⟨ht.grown.os, ht.grown.tape, ht.grown.output, ht.grown.size, fun k hk hn => turned_block ht hk (fun e => hn (e ▸ hF)), fun _ h => .inl h⟩
theorem FB.apart {w : World} {B : Nat} {o : FO} {M : List L3} {N : Nat} (h : FB w B o M N) {b : Nat} (hb : b = o.mu ∨ b = o.mo ∨ b = o.mb) : o.f ≠ b ∧ o.lv.ownBlock ≠ some b ∧ o.sv.ownBlock ≠ some b := by
  have key : ∀ C T, w.heap[b]? ≠ some (.cells C T (0, 0)) := by
    intro C T e
    rcases hb with rfl | rfl | rfl
    · exact h.mup.ne e rfl
    · exact h.mov.ne e rfl
    · exact h.mbl.ne e rfl
  refine ⟨fun e => key _ _ (e ▸ h.blk), fun e => ?_, fun e => ?_⟩
  · obtain ⟨cur, hc⟩ := own_tag h.links e
    exact key _ _ hc
  · obtain ⟨cur, hc⟩ := own_tag h.lost e
    exact key _ _ hc
theorem FB.mapU {w w' : World} {B : Nat} {o : FO} {M : List L3} {N N' : Nat} {up : Int → Option Nat} (h : FB w B o M N) (ht : w.mapTurned w' o.mu) (hm : MP w' o.mu N' (upI up)) (hN : N ≤ N') : FB w' B { o with up := up } M N' ∧ Step w w' o.foot o.foot := by
  obtain ⟨a1, a2, a3⟩ := h.apart (.inl rfl)
  have hl := h.lt
  refine ⟨⟨(turned_block ht (hl _ (.inl rfl)) a1).trans h.blk, own_at h.links fun k e => turned_block ht (h.links.lt k e).2 (fun q => a2 (q ▸ e)), own_at h.lost fun k e => turned_block ht (h.lost.lt k e).2 (fun q => a3 (q ▸ e)),
    hm, (h.mov.at (turned_block ht h.mov.lt h.n1.symm)).mono hN, (h.mbl.at (turned_block ht h.mbl.lt h.n2.symm)).mono hN, h.n1, h.n2, h.n3, h.l0, h.l1, h.l2, h.l3, h.ok, h.okc⟩, turned_step ht (.inr (.inl rfl))⟩
theorem FB.mapO {w w' : World} {B : Nat} {o : FO} {M : List L3} {N N' : Nat} {ov : Int → Option Int} (h : FB w B o M N) (ht : w.mapTurned w' o.mo) (hm : MP w' o.mo N' ov) (hN : N ≤ N') : FB w' B { o with ov := ov } M N' ∧ Step w w' o.foot o.foot := by
  obtain ⟨a1, a2, a3⟩ := h.apart (.inr (.inl rfl))
  have hl := h.lt
  refine ⟨⟨(turned_block ht (hl _ (.inl rfl)) a1).trans h.blk, own_at h.links fun k e => turned_block ht (h.links.lt k e).2 (fun q => a2 (q ▸ e)), own_at h.lost fun k e => turned_block ht (h.lost.lt k e).2 (fun q => a3 (q ▸ e)),
    (h.mup.at (turned_block ht h.mup.lt h.n1)).mono hN, hm, (h.mbl.at (turned_block ht h.mbl.lt h.n3.symm)).mono hN, h.n1, h.n2, h.n3, h.l0, h.l1, h.l2, h.l3, h.ok, h.okc⟩, turned_step ht (.inr (.inr (.inl rfl)))⟩
theorem FB.mapB {w w' : World} {B : Nat} {o : FO} {M : List L3} {N N' : Nat} {bl : Int → Option Int} (h : FB w B o M N) (ht : w.mapTurned w' o.mb) (hm : MP w' o.mb N' bl) (hN : N ≤ N') : FB w' B { o with bl := bl } M N' ∧ Step w w' o.foot o.foot := by
  obtain ⟨a1, a2, a3⟩ := h.apart (.inr (.inr rfl))
  have hl := h.lt
  refine ⟨⟨(turned_block ht (hl _ (.inl rfl)) a1).trans h.blk, own_at h.links fun k e => turned_block ht (h.links.lt k e).2 (fun q => a2 (q ▸ e)), own_at h.lost fun k e => turned_block ht (h.lost.lt k e).2 (fun q => a3 (q ▸ e)),
    (h.mup.at (turned_block ht h.mup.lt h.n2)).mono hN, (h.mov.at (turned_block ht h.mov.lt h.n3)).mono hN, hm, h.n1, h.n2, h.n3, h.l0, h.l1, h.l2, h.l3, h.ok, h.okc⟩, turned_step ht (.inr (.inr (.inr (.inl rfl))))⟩
/-- what the map of the tree of links has, fits into the number of links -/
theorem pigeon : ∀ (n : Nat) (l : List Nat), l.Nodup → (∀ k ∈ l, k < n) → l.length ≤ n
  | 0, l, _, h => by
    cases l with
    | nil => simp
    | cons a t => have := h a (by simp); omega
  | n + 1, l, hn, h => by
    have h1 : (l.filter (fun k => k != n)).Nodup := hn.filter _
    have h2 := pigeon n _ h1 (fun k hk => by
      rw [List.mem_filter] at hk
      have := h k hk.1
      have : k ≠ n := by simpa using hk.2
      omega)
    have h3 : l.length ≤ (l.filter (fun k => k != n)).length + 1 := by
      clear h h1 h2
      induction l with
      | nil => simp
      | cons a t ih =>
        rw [List.nodup_cons] at hn
        by_cases e : a = n
        · subst e
          have : t.filter (fun k => k != a) = t := List.filter_eq_self.2 fun k hk => by
            have : k ≠ a := fun q => hn.1 (q ▸ hk)
            simpa using this
          simp [this]
        · have := ih hn.2
          have e' : (a != n) = true := by simpa using e
          simp [e']
          omega
    omega
end Go.Proofs.Ytpnjmkmobdaefaa
