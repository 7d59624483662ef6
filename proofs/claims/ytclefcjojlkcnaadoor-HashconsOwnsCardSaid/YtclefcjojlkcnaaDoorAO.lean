/- What the table's map holds; pure. -/
import Derived.Test.YtclefcjojlkcnaaDoorAN
namespace Go.Proofs.YtclefcjojlkcnaaDoor.V
open Go.RowKit Go.Maps
open Go.Proofs.YtclefcjojlkcnaaDoor.G (RowA Step mem dom cN Cs)
set_option linter.unusedVariables false
set_option linter.unusedSimpArgs false
def keyB (m : Nn) : List UInt8 := keyL m.op m.wd m.vl.toNat m.nm m.zs
def kN (m : Nn) : Lit := .string (keyB m)
structure OKN (m : Nn) : Prop where
  o : In64 m.op
  d : In64 m.wd
  v0 : 0 ≤ m.vl
  v : m.vl.toNat < 18446744073709551616
  s : m.nm.size ≤ 1000000
  l : m.zs.length ≤ 1000
  z : ∀ k, In64 (m.zs.getD k 0)
theorem OKN.nd {m : Nn} (h : OKN m) {w : World} {p : Option Addr} (hr : Ra w p m.zs) : Nd w m.op m.wd m.vl.toNat m.nm p m.zs := ⟨h.o, h.d, h.v, h.s, h.l, h.z, hr⟩
theorem ra_nil (w : World) : Ra w none [] := fun h => by simp at h
theorem OKN.key {m : Nn} (h : OKN m) : (keyB m).length ≤ 3000000 := by
  have h1 := itoa_b _ h.o
  have h2 := itoa_b _ h.d
  have h3 := dec_len m.vl.toNat h.v
  have h4 := itoa_b (m.zs.length : Int) ⟨by have := h.l; omega, by have := h.l; omega⟩
  have h5 := flat_b m.zs h.z m.zs.length
  have h6 := h.l
  have h7 : m.nm.data.toList.length ≤ 1000000 := h.s
  simp only [keyB, keyL, headL, List.length_append, List.length_cons, List.length_nil]
  omega
theorem OKN.lit {m : Nn} (h : OKN m) : WideAt.IsKeyLit (kN m) := keyLaw.key (key_of h.key)
theorem kN_inj {a b : Nn} (ha : OKN a) (hb : OKN b) (h : kN a = kN b) : a = b := by
  obtain ⟨o, d, v, s, z⟩ := a
  obtain ⟨o', d', v', s', z'⟩ := b
  have h1 : keyB ⟨o, d, v, s, z⟩ = keyB ⟨o', d', v', s', z'⟩ := by unfold kN at h; exact Lit.string.inj h
  obtain ⟨e1, e2, e3, e4, e5⟩ := key_inj h1
  have a0 := ha.v0
  have b0 := hb.v0
  simp only [] at e1 e2 e3 e4 e5 a0 b0
  have e6 : v = v' := by omega
  rw [e1, e2, e4, e5, e6]
def eV (m : Nn) (q : Option Addr) (d : Nat) (id : Int) : Value := .agg #[.int .i64 m.op, .int .i64 m.wd, .int .u64 m.vl, .string m.nm, .slice q m.zs.length d, .int .i64 id]
/-- the map holds these nodes with these numbers -/
structure MV (S : Nat → Prop) (w : World) (D : DataW Value) (ms : List Nn) (ids : List Int) : Prop where
  tidy : Tidy D
  len : ids.length = ms.length
  inc : Inc ms
  ok : ∀ m ∈ ms, OKN m
  size : Maps.size D = ms.length
  has : ∀ kl, Maps.has D kl = true → ∃ m ∈ ms, kl = kN m
  ent : ∀ p ∈ ms.zip ids, ∃ q d, (∀ zd, D.atKey (kN p.1) zd = .held (eV p.1 q d p.2)) ∧ RowA (dom S w) w q p.1.zs
theorem MV.keep {S F F' : Nat → Prop} {w w' : World} {D : DataW Value} {ms : List Nn} {ids : List Int} (h : MV S w D ms ids) (s : Step w w' F F') (hS : ∀ k, S k → ¬ F k) : MV S w' D ms ids :=
  ⟨h.tidy, h.len, h.inc, h.ok, h.size, h.has, fun p hp => by
    obtain ⟨q, d, h1, h2⟩ := h.ent p hp
    exact ⟨q, d, h1, h2.keep (s.dom hS)⟩⟩
theorem MV.nil (S : Nat → Prop) (w : World) : MV S w (.map []) [] [] := ⟨tidy_empty, rfl, List.Pairwise.nil, (fun m h => by cases h), rfl, (fun kl h => by simp [Maps.has] at h), (fun p h => by simp at h)⟩
theorem zip_mem {α β : Type} {xs : List α} {ys : List β} (h : ys.length = xs.length) {x : α} (hx : x ∈ xs) : ∃ y, (x, y) ∈ xs.zip ys := by
  obtain ⟨k, hk, rfl⟩ := List.getElem_of_mem hx
  refine ⟨ys[k]'(by omega), ?_⟩
  have := List.getElem_mem (l := xs.zip ys) (n := k) (by simp; omega)
  rwa [List.getElem_zip] at this
theorem MV.in {S : Nat → Prop} {w : World} {D : DataW Value} {ms : List Nn} {ids : List Int} (h : MV S w D ms ids) {n : Nn} (hn : OKN n) : Maps.has D (kN n) = isA n ms := by
  rw [Bool.eq_iff_iff, isA_mem h.inc]
  constructor
  · intro hh
    obtain ⟨m, hm, e⟩ := h.has _ hh
    rw [kN_inj hn (h.ok m hm) e]; exact hm
  · intro hh
    obtain ⟨id, hp⟩ := zip_mem h.len hh
    obtain ⟨q, d, h1, _⟩ := h.ent _ hp
    exact has_true_of_atKey h1
theorem isA_el {n : Nn} {ms : List Nn} (h : isA n ms = true) : ∃ hl : atI n ms < ms.length, ms[atI n ms] = n := by
  have hl := isA_lt h
  refine ⟨hl, ?_⟩
  unfold isA at h
  rw [dif_pos hl] at h
  exact cmpM_zero.1 (by simpa using h)
/-- what Get finds -/
theorem MV.get {S : Nat → Prop} {w : World} {D : DataW Value} {ms : List Nn} {ids : List Int} (h : MV S w D ms ids) {n : Nn} (hn : OKN n) {o d v : Int} {s : ByteArray} {p : Option Addr} {k c : Nat} {id : Int} (ha : D.atKey (kN n) (.held zent) = .held (.agg #[.int .i64 o, .int .i64 d, .int .u64 v, .string s, .slice p k c, .int .i64 id])) : id = getI n ms ids := by
  unfold getI
  cases hi : isA n ms with
  | true =>
    obtain ⟨hl, he⟩ := isA_el hi
    rw [if_pos rfl]
    have hlen := h.len
    have hp : (n, ids[atI n ms]'(by omega)) ∈ ms.zip ids := by
      have := List.getElem_mem (l := ms.zip ids) (n := atI n ms) (by simp; omega)
      rw [List.getElem_zip, he] at this
      exact this
    obtain ⟨q, d', h1, _⟩ := h.ent _ hp
    rw [h1] at ha
    have h9 : eV n q d' (ids[atI n ms]'(by omega)) = .agg #[.int .i64 o, .int .i64 d, .int .u64 v, .string s, .slice p k c, .int .i64 id] := DataW.held.inj ha
    unfold eV at h9
    simp at h9
    rw [← h9.2.2.2.2.2]
    simp [List.getD_eq_getElem?_getD, show atI n ms < ids.length by omega]
  | false =>
    rw [if_neg (by decide)]
    have hno : Maps.has D (kN n) = false := by rw [h.in hn, hi]
    rw [atKey_of_not_has hno] at ha
    have h9 : zent = .agg #[.int .i64 o, .int .i64 d, .int .u64 v, .string s, .slice p k c, .int .i64 id] := DataW.held.inj ha
    unfold zent at h9
    simp at h9
    exact h9.2.2.2.2.2.symm
theorem mem_zip_ins {α β : Type} {xs : List α} {ys : List β} (h : ys.length = xs.length) (i : Nat) (x : α) (y : β) {p : α × β} (hp : p ∈ (xs.take i ++ x :: xs.drop i).zip (ys.take i ++ y :: ys.drop i)) : p = (x, y) ∨ p ∈ xs.zip ys := by
  rw [List.zip_append (by simp [h]), List.zip_cons_cons] at hp
  have e : xs.zip ys = (xs.take i).zip (ys.take i) ++ (xs.drop i).zip (ys.drop i) := by
    rw [← List.zip_append (by simp [h]), List.take_append_drop, List.take_append_drop]
  rw [e]
  rcases List.mem_append.1 hp with q | q
  · exact .inr (List.mem_append_left _ q)
  · rcases List.mem_cons.1 q with q | q
    · exact .inl q
    · exact .inr (List.mem_append_right _ q)
theorem mem_zip_del {α β : Type} {xs : List α} {ys : List β} (h : ys.length = xs.length) (i : Nat) {p : α × β} (hp : p ∈ (xs.take i ++ xs.drop (i + 1)).zip (ys.take i ++ ys.drop (i + 1))) : p ∈ xs.zip ys := by
  rw [List.zip_append (by simp [h])] at hp
  have e : xs.zip ys = (xs.take i).zip (ys.take i) ++ (xs.drop i).zip (ys.drop i) := by
    rw [← List.zip_append (by simp [h]), List.take_append_drop, List.take_append_drop]
  rw [e]
  rcases List.mem_append.1 hp with q | q
  · exact List.mem_append_left _ q
  · refine List.mem_append_right _ ?_
    rw [← List.drop_drop, ← List.drop_drop] at q
    by_cases hi : i < xs.length
    · rw [List.drop_eq_getElem_cons hi, List.drop_eq_getElem_cons (l := ys) (by omega), List.drop_succ_cons, List.drop_succ_cons, List.drop_zero, List.drop_zero] at q
      rw [List.drop_eq_getElem_cons hi, List.drop_eq_getElem_cons (l := ys) (by omega), List.zip_cons_cons]
      exact List.mem_cons_of_mem _ q
    · rw [List.drop_of_length_le (l := xs) (by omega)] at q
      simp at q
theorem MV.put {S : Nat → Prop} {w : World} {D : DataW Value} {ms : List Nn} {ids : List Int} (h : MV S w D ms ids) {n : Nn} (hn : OKN n) (hno : isA n ms = false) {q : Option Addr} {d : Nat} {id : Int} (hr : RowA (dom S w) w q n.zs) : MV S w (D.put (kN n) (.held (eV n q d id))) (insM n ms) (ids.take (atI n ms) ++ id :: ids.drop (atI n ms)) := by
  have hle := atI_le n ms
  have hlen := h.len
  have hnm : n ∉ ms := fun hm => by rw [(isA_mem h.inc).2 hm] at hno; cases hno
  refine ⟨h.tidy.put hn.lit _, ?_, inc_insM h.inc hno, fun m hm => ?_, ?_, fun kl hk => ?_, fun p hp => ?_⟩
  · simp [insM]; omega
  · rcases mem_insM.1 hm with rfl | hm
    · exact hn
    · exact h.ok m hm
  · rw [size_put h.tidy, if_neg (by rw [h.in hn, hno]; decide), h.size]
    simp [insM]; omega
  · by_cases e : kl = kN n
    · exact ⟨n, mem_insM.2 (.inl rfl), e⟩
    · rw [has_put_other e] at hk
      obtain ⟨m, hm, e'⟩ := h.has _ hk
      exact ⟨m, mem_insM.2 (.inr hm), e'⟩
  · rcases mem_zip_ins hlen (atI n ms) n id hp with rfl | hp
    · exact ⟨q, d, fun zd => atKey_put_same h.tidy.isMap hn.lit _ _, hr⟩
    · obtain ⟨q', d', h1, h2⟩ := h.ent p hp
      have hpm : p.1 ∈ ms := (List.of_mem_zip hp).1
      exact ⟨q', d', fun zd => by rw [atKey_put_other (fun e => hnm (by rw [← kN_inj (h.ok _ hpm) hn e]; exact hpm))]; exact h1 zd, h2⟩
theorem MV.del {S : Nat → Prop} {w : World} {D : DataW Value} {ms : List Nn} {ids : List Int} (h : MV S w D ms ids) {n : Nn} (hn : OKN n) (hyes : isA n ms = true) : MV S w (D.del (kN n)) (delM n ms) (ids.take (atI n ms) ++ ids.drop (atI n ms + 1)) := by
  obtain ⟨hl, he⟩ := isA_el hyes
  have hlen := h.len
  have hz := size_del (k := kN n) h.tidy
  rw [h.in hn, hyes, if_pos rfl, h.size] at hz
  refine ⟨h.tidy.del _, ?_, inc_delM h.inc, fun m hm => h.ok m ((mem_delM h.inc hyes).1 hm).1, ?_, fun kl hk => ?_, fun p hp => ?_⟩
  · simp [delM]; omega
  · simp [delM]; omega
  · have hne : kl ≠ kN n := fun e => by rw [e, has_del_same] at hk; cases hk
    rw [has_del_other hne] at hk
    obtain ⟨m, hm, e⟩ := h.has _ hk
    exact ⟨m, (mem_delM h.inc hyes).2 ⟨hm, fun e' => hne (by rw [e, e'])⟩, e⟩
  · have hp' := mem_zip_del hlen (atI n ms) hp
    obtain ⟨q', d', h1, h2⟩ := h.ent p hp'
    have hm : p.1 ∈ delM n ms := (List.of_mem_zip hp).1
    have hm' := (mem_delM h.inc hyes).1 hm
    exact ⟨q', d', fun zd => by rw [atKey_del_other (fun e => hm'.2 (kN_inj (h.ok _ hm'.1) hn e))]; exact h1 zd, h2⟩
theorem MV.del_no {S : Nat → Prop} {w : World} {D : DataW Value} {ms : List Nn} {ids : List Int} (h : MV S w D ms ids) {n : Nn} (hn : OKN n) (hno : isA n ms = false) : D.del (kN n) = D := del_of_not_has (by rw [h.in hn, hno])
end Go.Proofs.YtclefcjojlkcnaaDoor.V
