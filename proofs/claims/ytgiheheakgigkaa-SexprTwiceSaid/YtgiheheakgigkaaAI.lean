/- A printed s-expression reads as itself. -/
import Derived.Test.YtgiheheakgigkaaAH
namespace Go.Proofs.Ytgiheheakgigkaa
open Go.RowKit
set_option linter.unusedVariables false
set_option linter.unusedSimpArgs false
theorem f_out {s : ByteArray} {i : Nat} (h : s.size ≤ i) : (xo s).f i = 0 := dif_neg (by omega)
theorem f_right (p b : ByteArray) (k : Nat) : (xo (p ++ b)).f (p.size + k) = (xo b).f k := by
  by_cases h : k < b.size
  · rw [xo_f h, xo_f (by rw [ByteArray.size_append]; omega), ByteArray.getElem_append_right (by omega)]
    congr 2
    omega
  · rw [f_out (s := b) (by omega), f_out (s := p ++ b) (by rw [ByteArray.size_append]; omega)]
theorem f_left {p b : ByteArray} {k : Nat} (h : k < p.size) : (xo (p ++ b)).f k = (xo p).f k := by
  rw [xo_f h, xo_f (by rw [ByteArray.size_append]; omega), ByteArray.getElem_append_left h]
/-- the byte k of the part b -/
theorem f_mid {p b q : ByteArray} {k : Nat} (h : k < b.size) : (xo (p ++ (b ++ q))).f (p.size + k) = (xo b).f k := by
  rw [f_right, f_left h]
/-- what skipping passes over -/
def Skp (g : ByteArray) : Prop := ∀ p q : ByteArray, sk (xo (p ++ (g ++ q))) false p.size = sk (xo (p ++ (g ++ q))) false (p.size + g.size)
/-- does not begin with an atom's byte -/
def NA (g : ByteArray) : Prop := 0 < g.size → ab ((xo g).f 0) = false
/-- a token's first byte -/
def tok (c : Nat) : Prop := bk1 c = false ∧ c ≠ 59 ∧ c ≠ 41 ∧ (c ≠ 40 → ab c = true)
theorem tok_ab {c : Nat} (h : ab c = true) : tok c ∧ c ≠ 40 := by
  unfold ab at h
  split at h
  · rename_i hc
    refine ⟨⟨?_, by omega, by omega, fun _ => ?_⟩, by omega⟩
    · unfold bk1; rw [if_neg (by omega)]
    · unfold ab; rw [if_pos hc]
  · cases h
mutual
/-- the text of a tree, with gaps -/
def core (u v : ByteArray) : T → ByteArray
  | .mk a ts => if a.size = 0 then ⟨#[40]⟩ ++ (body u v true ts ++ ⟨#[41]⟩) else a
def body (u v : ByteArray) : Bool → List T → ByteArray
  | _, [] => u
  | f, t :: ts => (if f then u else v) ++ (core u v t ++ body u v false ts)
end
theorem core_mk (u v a : ByteArray) (ts : List T) : core u v (.mk a ts) = if a.size = 0 then ⟨#[40]⟩ ++ (body u v true ts ++ ⟨#[41]⟩) else a := by rw [core]
theorem body_nil (u v : ByteArray) (f : Bool) : body u v f [] = u := by rw [body]
theorem body_cons (u v : ByteArray) (f : Bool) (t : T) (ts : List T) : body u v f (t :: ts) = (if f then u else v) ++ (core u v t ++ body u v false ts) := by rw [body]
theorem core_pos (u v : ByteArray) (t : T) : 1 ≤ (core u v t).size := by
  cases t with
  | mk a ts =>
    rw [core_mk]
    split
    · rw [ByteArray.size_append]; show 1 ≤ 1 + _; omega
    · omega
theorem body_len (u v : ByteArray) : ∀ (ts : List T) (f : Bool), ts.length ≤ (body u v f ts).size
  | [], f => by rw [body_nil]; exact Nat.zero_le _
  | t :: ts, f => by
    rw [body_cons, ByteArray.size_append, ByteArray.size_append]
    have h1 := body_len u v ts false
    have h2 := core_pos u v t
    simp only [List.length_cons]
    omega
theorem ae_all {a : ByteArray} (h : atB a = true) : ∀ k, k < a.size → ab ((xo a).f k) = true := by
  have h0 : ae (xo a) 0 = a.size := by unfold atB at h; split at h; assumption; cases h
  have key : ∀ d k, k + d = a.size → ae (xo a) k = a.size → ∀ j, k ≤ j → j < a.size → ab ((xo a).f j) = true := by
    intro d
    induction d with
    | zero => intro k hk _ j h1 h2; omega
    | succ d ih =>
      intro k hk he j h1 h2
      have hlt : k < (xo a).n := by rw [xo_n]; omega
      rw [ae_step hlt] at he
      split at he
      · rename_i hb
        by_cases hj : j = k
        · rw [hj]; exact hb
        · exact ih (k + 1) (by omega) he j (by omega) h2
      · omega
  intro k hk
  exact key a.size 0 (by omega) h0 k (Nat.zero_le _) hk
/-- an atom's end -/
theorem ae_mid {p a q : ByteArray} (h : ∀ k, k < a.size → ab ((xo a).f k) = true) (hq : NA q) : ∀ d k, k + d = a.size → ae (xo (p ++ (a ++ q))) (p.size + k) = p.size + a.size := by
  intro d
  induction d with
  | zero =>
    intro k hk
    obtain rfl : k = a.size := by omega
    by_cases h0 : 0 < q.size
    · rw [ae_step (by rw [xo_n, ByteArray.size_append, ByteArray.size_append]; omega), if_neg]
      rw [f_right, show a.size = a.size + 0 by omega, f_right, hq h0]
      decide
    · exact ae_end (by rw [xo_n, ByteArray.size_append, ByteArray.size_append]; omega)
  | succ d ih =>
    intro k hk
    rw [ae_step (by rw [xo_n, ByteArray.size_append, ByteArray.size_append]; omega), f_mid (by omega), if_pos (h k (by omega)), show p.size + k + 1 = p.size + (k + 1) by omega]
    exact ih (k + 1) (by omega)
theorem riT_ne {a : ByteArray} {ts : List T} (h : riT (.mk a ts) = true) (ha : a.size ≠ 0) : ts = [] ∧ atB a = true := by
  rw [riT_mk, if_neg ha] at h
  split at h
  · rename_i hl; exact ⟨List.length_eq_zero_iff.1 hl, h⟩
  · cases h
theorem riT_eq {a : ByteArray} {ts : List T} (h : riT (.mk a ts) = true) (ha : a.size = 0) : ∀ t ∈ ts, riT t = true := by
  rw [riT_mk, if_pos ha] at h
  exact riL_iff.1 h
/-- a token begins a tree's text -/
theorem core_tok {u v : ByteArray} {t : T} (h : riT t = true) : tok ((xo (core u v t)).f 0) := by
  cases t with
  | mk a ts =>
    rw [core_mk]
    by_cases ha : a.size = 0
    · rw [if_pos ha, show (xo (⟨#[40]⟩ ++ (body u v true ts ++ ⟨#[41]⟩))).f 0 = 40 from f_left (p := ⟨#[40]⟩) (by decide)]
      exact ⟨by decide, by decide, by decide, fun h => absurd rfl h⟩
    · rw [if_neg ha]
      exact (tok_ab (ae_all (riT_ne h ha).2 0 (by omega))).1
theorem empty_size {a : ByteArray} (h : a.size = 0) : a = ⟨#[]⟩ := by
  obtain ⟨⟨l⟩⟩ := a
  cases l with
  | nil => rfl
  | cons x l => simp [ByteArray.size] at h
/-- skipping a gap in front of a token -/
theorem skp_tok {g p r : ByteArray} (hg : Skp g) (hr : 0 < r.size) (ht : bk1 ((xo r).f 0) = false ∧ (xo r).f 0 ≠ 59) : sk (xo (p ++ (g ++ r))) false p.size = p.size + g.size := by
  rw [hg p r]
  have e : (xo (p ++ (g ++ r))).f (p.size + g.size) = (xo r).f 0 := by rw [f_right, show g.size = g.size + 0 by omega, f_right]
  exact sk_here (by rw [xo_n, ByteArray.size_append, ByteArray.size_append]; omega) (by rw [e]; exact ht.1) (by rw [e]; exact ht.2)
def RT (u v : ByteArray) (t : T) : Prop := riT t = true → ∀ k, dpT t ≤ k → ∀ p q, NA q → exR (xo (p ++ (core u v t ++ q))) k p.size = .ok t (p.size + (core u v t).size)
theorem close_tok (q : ByteArray) : (xo (⟨#[41]⟩ ++ q)).f 0 = 41 := f_left (p := ⟨#[41]⟩) (by decide)
theorem na_app {g q : ByteArray} (h1 : NA g) (h2 : g.size = 0 → NA q) : NA (g ++ q) := by
  intro h
  by_cases h0 : g.size = 0
  · have := h2 h0
    rw [empty_size h0] at h ⊢
    rw [show (⟨#[]⟩ : ByteArray) ++ q = q from ByteArray.empty_append] at h ⊢
    exact this h
  · rw [f_left (by omega)]
    exact h1 (by omega)
theorem na_close (q : ByteArray) : NA (⟨#[41]⟩ ++ q) := fun _ => by rw [close_tok]; decide
theorem el_text {u v : ByteArray} (hu : Skp u) (hv : Skp v) (nu : NA u) (nv : NA v) (hv0 : 0 < v.size) {k : Nat} : ∀ (ts : List T), (∀ t ∈ ts, RT u v t ∧ riT t = true ∧ dpT t ≤ k) → ∀ (f : Bool) (p q : ByteArray) (acc : List T) (fuel : Nat), ts.length < fuel →
    elF (xo (p ++ (body u v f ts ++ (⟨#[41]⟩ ++ q)))) (exR (xo (p ++ (body u v f ts ++ (⟨#[41]⟩ ++ q)))) k) fuel acc p.size = .ok (acc ++ ts) (p.size + (body u v f ts).size + 1)
  | [], _, f, p, q, acc, 0, hf => by omega
  | [], _, f, p, q, acc, fuel + 1, hf => by
    rw [body_nil]
    have hs : sk (xo (p ++ (u ++ (⟨#[41]⟩ ++ q)))) false p.size = p.size + u.size := skp_tok hu (by rw [ByteArray.size_append]; show 0 < 1 + _; omega) (by rw [close_tok]; decide)
    have hf : (xo (p ++ (u ++ (⟨#[41]⟩ ++ q)))).f (p.size + u.size) = 41 := by
      rw [f_right, show u.size = u.size + 0 by omega, f_right, close_tok]
    unfold elF
    rw [hs, if_pos (by rw [xo_n, ByteArray.size_append, ByteArray.size_append, ByteArray.size_append]; show _ < _ + (_ + (1 + _)); omega), if_pos hf, List.append_nil]
  | t :: ts, h, f, p, q, acc, 0, hf => by omega
  | t :: ts, h, f, p, q, acc, fuel + 1, hf => by
    obtain ⟨g, hg⟩ : ∃ g, g = (if f then u else v) := ⟨_, rfl⟩
    have hgs : Skp g := by rw [hg]; cases f <;> assumption
    obtain ⟨h1, h2, h3⟩ := h t (by simp)
    have htk := core_tok (u := u) (v := v) h2
    have hp := core_pos u v t
    have ih := el_text hu hv nu nv hv0 ts (fun t ht => h t (by simp [ht])) false (p ++ (g ++ core u v t)) q (acc ++ [t]) fuel (by simp at hf; omega)
    rw [body_cons, ← hg]
    obtain ⟨S, hS⟩ : ∃ S, S = p ++ (g ++ (core u v t ++ (body u v false ts ++ (⟨#[41]⟩ ++ q)))) := ⟨_, rfl⟩
    rw [show p ++ ((g ++ (core u v t ++ body u v false ts)) ++ (⟨#[41]⟩ ++ q)) = S by rw [hS]; simp only [ByteArray.append_assoc]]
    have e1 : (p ++ (g ++ core u v t)) ++ (body u v false ts ++ (⟨#[41]⟩ ++ q)) = S := by rw [hS]; simp only [ByteArray.append_assoc]
    have e2 : (p ++ g) ++ (core u v t ++ (body u v false ts ++ (⟨#[41]⟩ ++ q))) = S := by rw [hS]; simp only [ByteArray.append_assoc]
    rw [e1] at ih
    have hq : NA (body u v false ts ++ (⟨#[41]⟩ ++ q)) := by
      cases ts with
      | nil => rw [body_nil]; exact na_app nu fun _ => na_close q
      | cons t' ts' =>
        rw [body_cons, if_neg (by decide), ByteArray.append_assoc]
        exact na_app nv fun e => by omega
    have hx := h1 h2 k h3 (p ++ g) _ hq
    rw [e2] at hx
    have hs : sk (xo S) false p.size = p.size + g.size := by
      rw [hS]
      exact skp_tok hgs (by rw [ByteArray.size_append]; omega) (by rw [f_left (by omega)]; exact ⟨htk.1, htk.2.1⟩)
    have hf : (xo S).f (p.size + g.size) = (xo (core u v t)).f 0 := by
      rw [hS, f_right, show g.size = g.size + 0 by omega, f_right, f_left (by omega)]
    have hn : p.size + g.size < (xo S).n := by
      rw [hS, xo_n]; simp only [ByteArray.size_append]; omega
    unfold elF
    rw [hs, if_pos hn, if_neg (by rw [hf]; exact htk.2.2.1)]
    rw [ByteArray.size_append] at hx
    rw [hx]
    show elF (xo S) (exR (xo S) k) fuel (acc ++ [t]) _ = _
    rw [show p.size + g.size + (core u v t).size = (p ++ (g ++ core u v t)).size by simp only [ByteArray.size_append]; omega, ih]
    simp only [ByteArray.size_append, List.append_assoc, List.singleton_append]
    congr 1
    omega
theorem rt {u v : ByteArray} (hu : Skp u) (hv : Skp v) (nu : NA u) (nv : NA v) (hv0 : 0 < v.size) (t : T) : RT u v t := by
  induction t using T.ind with
  | h a ts ih =>
    intro hr k hk p q hq
    rw [dpT_mk] at hk
    cases k with
    | zero => omega
    | succ k =>
      rw [core_mk]
      by_cases ha : a.size = 0
      · have hre := riT_eq hr ha
        rw [if_pos ha] at hk ⊢
        obtain ⟨B, hB⟩ : ∃ B, B = body u v true ts := ⟨_, rfl⟩
        have e1 : p ++ ((⟨#[40]⟩ ++ (body u v true ts ++ ⟨#[41]⟩)) ++ q) = (p ++ ⟨#[40]⟩) ++ (body u v true ts ++ (⟨#[41]⟩ ++ q)) := by simp only [ByteArray.append_assoc]
        have hel := el_text hu hv nu nv hv0 (k := k) ts (fun t ht => ⟨ih t ht, hre t ht, Nat.le_trans (dpL_mem (m := 0) ht) (by omega)⟩) true (p ++ ⟨#[40]⟩) q []
        have hbl := body_len u v ts true
        rw [e1]
        obtain ⟨S, hS⟩ : ∃ S, S = (p ++ ⟨#[40]⟩) ++ (body u v true ts ++ (⟨#[41]⟩ ++ q)) := ⟨_, rfl⟩
        rw [← hS] at hel ⊢
        have hf : (xo S).f p.size = 40 := by
          rw [hS, ByteArray.append_assoc, show p.size = p.size + 0 by omega, f_right, f_left (by show 0 < 1; omega)]
          rfl
        have hn : (xo S).n = p.size + 1 + ((body u v true ts).size + (1 + q.size)) := by
          rw [hS, xo_n]; simp only [ByteArray.size_append]; rfl
        unfold exR
        rw [hf, if_neg (by simp), if_neg (by simp)]
        have e3 : (p ++ ⟨#[40]⟩).size = p.size + 1 := by rw [ByteArray.size_append]; rfl
        rw [e3] at hel
        rw [hel ((xo S).n - p.size) (by rw [hn]; omega)]
        show R.ok (T.mk ⟨#[]⟩ ([] ++ ts)) _ = R.ok (T.mk a ts) _
        rw [empty_size ha, List.nil_append]
        congr 1
        simp only [ByteArray.size_append]
        show _ = p.size + (1 + (_ + 1))
        omega
      · rw [if_neg ha] at hk ⊢
        obtain ⟨rfl, hat⟩ := riT_ne hr ha
        have hall := ae_all hat
        have h0 := hall 0 (by omega)
        have hf : (xo (p ++ (a ++ q))).f p.size = (xo a).f 0 := by
          have := f_mid (p := p) (b := a) (q := q) (k := 0) (by omega)
          rwa [Nat.add_zero] at this
        have h40 := (tok_ab h0).2
        have hae := ae_mid (p := p) hall hq a.size 0 (by omega)
        rw [Nat.add_zero] at hae
        unfold exR
        rw [hf, if_neg (by simp [h0]), if_pos h40, hae]
        have : (xo (p ++ (a ++ q))).s p.size (p.size + a.size) = a := by
          show (p ++ (a ++ q)).extract p.size (p.size + a.size) = a
          rw [ByteArray.extract_append, ByteArray.extract_append]
          apply ByteArray.ext_getElem
          · simp [ByteArray.size_append, ByteArray.size_extract]
          · intro i hi hi'
            simp [ByteArray.size_append, ByteArray.size_extract] at hi
            rw [ByteArray.getElem_append_right (by simp [ByteArray.size_extract]), ByteArray.getElem_append_left (by simp [ByteArray.size_extract]; omega), ByteArray.getElem_extract]
            congr 1
            simp [ByteArray.size_extract]
        rw [this]
/-- the only s-expression of a text, with gaps at both ends -/
theorem all_text {u v g h : ByteArray} (hu : Skp u) (hv : Skp v) (nu : NA u) (nv : NA v) (hv0 : 0 < v.size) (hg : Skp g) (hh : Skp h) (nh : NA h) {t : T} (ht : vaT t = true) : parseR (xo (g ++ (core u v t ++ h))) = (t, 0, 0) := by
  obtain ⟨hr, hd⟩ := vaT_iff.1 ht
  have htk := core_tok (u := u) (v := v) hr
  have hp := core_pos u v t
  have hs : sk (xo (g ++ (core u v t ++ h))) false 0 = g.size := by
    have := skp_tok (p := ⟨#[]⟩) (r := core u v t ++ h) hg (by rw [ByteArray.size_append]; omega) (by rw [f_left (by omega)]; exact ⟨htk.1, htk.2.1⟩)
    rw [show (⟨#[]⟩ : ByteArray) ++ (g ++ (core u v t ++ h)) = g ++ (core u v t ++ h) from ByteArray.empty_append] at this
    rw [show (⟨#[]⟩ : ByteArray).size = 0 from rfl, Nat.zero_add] at this
    exact this
  have hx := rt hu hv nu nv hv0 t hr 64 hd g h nh
  have hn : (xo (g ++ (core u v t ++ h))).n = g.size + ((core u v t).size + h.size) := by rw [xo_n]; simp only [ByteArray.size_append]
  have hs2 : sk (xo (g ++ (core u v t ++ h))) false (g.size + (core u v t).size) = g.size + ((core u v t).size + h.size) := by
    have := hh (g ++ core u v t) ⟨#[]⟩
    rw [show h ++ (⟨#[]⟩ : ByteArray) = h from ByteArray.append_empty, ByteArray.append_assoc, ByteArray.size_append] at this
    rw [this, sk_end (by rw [hn]; omega)]
    omega
  have hal : allR (xo (g ++ (core u v t ++ h))) = .ok [t] 0 := by
    unfold allR
    obtain ⟨m, hm⟩ : ∃ m, (xo (g ++ (core u v t ++ h))).n + 1 = m + 1 + 1 := ⟨(xo (g ++ (core u v t ++ h))).n - 1, by rw [hn]; omega⟩
    rw [hm, alF, hs, if_pos (by rw [hn]; omega), hx]
    show alF _ (m + 1) ([] ++ [t]) _ = _
    rw [alF, hs2, if_neg (by rw [hn]; omega)]
    rfl
  exact parse_one hal
end Go.Proofs.Ytgiheheakgigkaa
