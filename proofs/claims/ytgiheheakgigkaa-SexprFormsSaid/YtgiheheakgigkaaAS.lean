/- Printed texts: sizes, gaps, what is read from them; what is read is valid and not large. -/
import Derived.Test.YtgiheheakgigkaaAR
namespace Go.Proofs.Ytgiheheakgigkaa
open Go.RowKit
set_option linter.unusedVariables false
set_option linter.unusedSimpArgs false
theorem sum_mono : ∀ {ts : List T} {f g : T → Nat}, (∀ t ∈ ts, f t ≤ g t) → (ts.map f).sum ≤ (ts.map g).sum
  | [], f, g, _ => Nat.le_refl _
  | t :: ts, f, g, h => by
    simp only [List.map_cons, List.sum_cons]
    have h1 := h t (by simp)
    have h2 := sum_mono (ts := ts) (f := f) (g := g) fun u hu => h u (by simp [hu])
    omega
theorem prL_size : ∀ (ts : List T) (acc : ByteArray) (f : Bool), (prL acc f ts).size ≤ acc.size + (ts.map fun t => (prT t).size + 1).sum
  | [], acc, f => by rw [prL_nil]; simp
  | t :: ts, acc, f => by
    rw [prL_cons]
    refine Nat.le_trans (prL_size ts _ false) ?_
    have h2 : (⟨#[32]⟩ : ByteArray).size = 1 := rfl
    simp only [List.map_cons, List.sum_cons, ByteArray.size_append]
    split
    · omega
    · rw [ByteArray.size_append]; omega
theorem prT_list (ts : List T) : (prT (.mk ⟨#[]⟩ ts)).size ≤ (ts.map fun t => (prT t).size + 1).sum + 2 := by
  rw [prT_mk, if_pos (show (⟨#[]⟩ : ByteArray).size = 0 from rfl), ByteArray.size_append]
  have h := prL_size ts ⟨#[40]⟩ true
  have e40 : (⟨#[40]⟩ : ByteArray).size = 1 := rfl
  have e41 : (⟨#[41]⟩ : ByteArray).size = 1 := rfl
  omega
theorem pr_w (t : T) : ∀ l, 0 ≤ wT t l → (((prT t).size + 1 : Nat) : Int) ≤ (102 : Nat) * (l - wT t l) := by
  induction t using T.ind with
  | h a ts ih =>
    intro l hl
    rw [wT_mk] at hl ⊢
    have hs := wL_sum ts (fun t => (prT t).size + 1) 102 ih _ hl
    have hle := wL_le ts (fun u _ => wT_le u) (l - 1 - ((a.size / 100 : Nat) : Int))
    by_cases ha : a.size = 0
    · have h1 := prT_list ts
      rw [empty_size ha]
      rw [ha] at hs hle
      have e0 : (⟨#[]⟩ : ByteArray).size = 0 := rfl
      rw [e0]
      simp only [Nat.zero_div] at *
      omega
    · rw [prT_mk, if_neg ha]
      omega
theorem few_pr {t : T} {l : Nat} (h : 0 ≤ wT t (l : Int)) : (prT t).size ≤ 102 * l := by
  have := pr_w t _ h
  omega
theorem sp_w (g : ByteArray) (hg : g.size ≤ 40) (t : T) : ∀ l, 0 ≤ wT t l → (((spT g t).size : Nat) : Int) ≤ (261 : Nat) * (l - wT t l) := by
  induction t using T.ind with
  | h a ts ih =>
    intro l hl
    rw [wT_mk] at hl ⊢
    have hs := wL_sum ts (fun t => (spT g t).size) 261 ih _ hl
    have hle := wL_le ts (fun u _ => wT_le u) (l - 1 - ((a.size / 100 : Nat) : Int))
    rw [spT_mk]
    have e40 : (⟨#[40]⟩ : ByteArray).size = 1 := rfl
    have e41 : (⟨#[41]⟩ : ByteArray).size = 1 := rfl
    by_cases ha : a.size = 0
    · rw [if_pos ha]
      simp only [ByteArray.size_append, spL_size]
      omega
    · rw [if_neg ha]
      simp only [ByteArray.size_append]
      omega
theorem few_sp {g : ByteArray} (hg : g.size ≤ 40) {t : T} {l : Nat} (h : 0 ≤ wT t (l : Int)) : (spT g t).size ≤ 261 * l := by
  have := sp_w g hg t _ h
  omega
/-! gaps -/
theorem skp_nil : Skp ⟨#[]⟩ := fun p q => rfl
theorem skp_one {c : UInt8} (h : bk1 c.toNat = true) : Skp ⟨#[c]⟩ := by
  intro p q
  have e : (xo (p ++ (⟨#[c]⟩ ++ q))).f p.size = c.toNat := by
    have := f_mid (p := p) (b := ⟨#[c]⟩) (q := q) (k := 0) (by show 0 < 1; omega)
    rw [Nat.add_zero] at this
    rw [this]
    rfl
  have h1 : (⟨#[c]⟩ : ByteArray).size = 1 := rfl
  rw [sk_bl (by rw [xo_n]; simp only [ByteArray.size_append]; omega) (by rw [e]; exact h)]
  rfl
theorem skp_app {g h : ByteArray} (hg : Skp g) (hh : Skp h) : Skp (g ++ h) := by
  intro p q
  have h1 := hg p (h ++ q)
  have h2 := hh (p ++ g) q
  have e1 : p ++ ((g ++ h) ++ q) = p ++ (g ++ (h ++ q)) := by simp only [ByteArray.append_assoc]
  have e2 : (p ++ g) ++ (h ++ q) = p ++ (g ++ (h ++ q)) := by simp only [ByteArray.append_assoc]
  rw [e2, ByteArray.size_append] at h2
  rw [e1, ByteArray.size_append, h1, h2, Nat.add_assoc]
theorem na_nil : NA ⟨#[]⟩ := fun h => by exact absurd h (by decide)
theorem bk1_na {c : Nat} (h : bk1 c = true) : ab c = false := by
  unfold bk1 at h
  split at h
  · rename_i hc; unfold ab; rw [if_neg (by omega)]
  · cases h
theorem skp_gap {g : ByteArray} (h : gpB g = true) : Skp g := by
  obtain ⟨h0, hb, h1, h2⟩ := gpB_iff.1 h
  have yn : (xo (g ++ ⟨#[97]⟩)).n = g.size + 1 := by rw [xo_n, ByteArray.size_append]; rfl
  have ye : (xo (g ++ ⟨#[97]⟩)).f g.size = 97 := by
    have := f_right g ⟨#[97]⟩ 0
    rw [Nat.add_zero] at this
    rw [this]
    rfl
  intro p q
  have key : ∀ d k cm, k + d = g.size → sk (xo (g ++ ⟨#[97]⟩)) cm k = g.size → sk (xo (p ++ (g ++ q))) cm (p.size + k) = sk (xo (p ++ (g ++ q))) false (p.size + g.size) := by
    intro d
    induction d with
    | zero =>
      intro k cm hk hs
      obtain rfl : k = g.size := by omega
      cases cm with
      | false => rfl
      | true =>
        exfalso
        rw [sk_step (by rw [yn]; omega), ye, if_neg (by omega), if_neg (by omega), if_neg (by simp)] at hs
        have := sk_ge (xo (g ++ ⟨#[97]⟩)) true (g.size + 1)
        omega
    | succ d ih =>
      intro k cm hk hs
      have hx : k < g.size := by omega
      have ef : (xo (p ++ (g ++ q))).f (p.size + k) = (xo (g ++ ⟨#[97]⟩)).f k := by rw [f_mid hx, f_left hx]
      rw [sk_step (by rw [yn]; omega)] at hs
      rw [sk_step (by rw [xo_n]; simp only [ByteArray.size_append]; omega), ef]
      split at hs
      · rename_i hc
        rw [if_pos hc]
        exact ih (k + 1) false (by omega) hs
      · rename_i hc
        rw [if_neg hc]
        split at hs
        · rename_i hd
          rw [if_pos hd]
          exact ih (k + 1) true (by omega) hs
        · rename_i hd
          rw [if_neg hd]
          split at hs
          · omega
          · rename_i hn
            rw [if_neg hn]
            exact ih (k + 1) cm (by omega) hs
  have := key g.size 0 false (by omega) h2
  rwa [Nat.add_zero] at this
theorem na_gap {g : ByteArray} (h : gpB g = true) : NA g := fun _ => bk1_na (gpB_iff.1 h).2.1
/-- a text with gaps reads as its tree -/
theorem gap_parse {g : ByteArray} (h : gpB g = true) {t : T} (ht : vaT t = true) : parseR (xo (spT g t)) = (t, 0, 0) := by
  rw [sp_core]
  have h0 := (gpB_iff.1 h).1
  exact all_text (skp_app (skp_gap h) (skp_gap h)) (skp_app (skp_gap h) (skp_gap h)) (na_app (na_gap h) fun e => absurd e h0) (na_app (na_gap h) fun e => absurd e h0) (by rw [ByteArray.size_append]; omega) (skp_gap h) (skp_gap h) (na_gap h) ht
theorem pr_core (t : T) : prT t = core ⟨#[]⟩ ⟨#[32]⟩ t := by
  induction t using T.ind with
  | h a ts ih =>
    rw [prT_mk, core_mk]
    by_cases ha : a.size = 0
    · rw [if_pos ha, if_pos ha]
      have key : ∀ (ts : List T) (f : Bool) (acc : ByteArray), (∀ t ∈ ts, prT t = core ⟨#[]⟩ ⟨#[32]⟩ t) → prL acc f ts = acc ++ body ⟨#[]⟩ ⟨#[32]⟩ f ts := by
        intro ts
        induction ts with
        | nil => intro f acc _; rw [prL_nil, body_nil]; exact ByteArray.append_empty.symm
        | cons t ts ih2 =>
          intro f acc h
          rw [prL_cons, body_cons, h t (by simp), ih2 false _ (fun u hu => h u (by simp [hu]))]
          cases f with
          | true =>
            rw [if_pos rfl, if_pos rfl, show (⟨#[]⟩ : ByteArray) ++ (core ⟨#[]⟩ ⟨#[32]⟩ t ++ body ⟨#[]⟩ ⟨#[32]⟩ false ts) = core ⟨#[]⟩ ⟨#[32]⟩ t ++ body ⟨#[]⟩ ⟨#[32]⟩ false ts from ByteArray.empty_append]
            simp only [ByteArray.append_assoc]
          | false =>
            rw [if_neg (by decide), if_neg (by decide)]
            simp only [ByteArray.append_assoc]
      rw [key ts true _ ih, ByteArray.append_assoc]
    · rw [if_neg ha, if_neg ha]
theorem skp_sp : Skp ⟨#[32]⟩ := skp_one (by decide)
theorem skp_nl : Skp ⟨#[10]⟩ := skp_one (by decide)
theorem na_sp : NA ⟨#[32]⟩ := fun _ => by decide
/-- a printed text reads as its tree -/
theorem print_parse {t : T} (ht : vaT t = true) : parseR (xo (prT t)) = (t, 0, 0) := by
  have := all_text (u := ⟨#[]⟩) (v := ⟨#[32]⟩) (g := ⟨#[]⟩) (h := ⟨#[]⟩) skp_nil skp_sp na_nil na_sp (by decide) skp_nil skp_nil na_nil ht
  rw [show (⟨#[]⟩ : ByteArray) ++ (core ⟨#[]⟩ ⟨#[32]⟩ t ++ ⟨#[]⟩) = core ⟨#[]⟩ ⟨#[32]⟩ t from by rw [show core ⟨#[]⟩ ⟨#[32]⟩ t ++ (⟨#[]⟩ : ByteArray) = core ⟨#[]⟩ ⟨#[32]⟩ t from ByteArray.append_empty]; exact ByteArray.empty_append] at this
  rw [pr_core]
  exact this
def allB : List T → ByteArray
  | [] => ⟨#[]⟩
  | t :: ts => prT t ++ (⟨#[10]⟩ ++ allB ts)
theorem prA_all : ∀ (ts : List T) (acc : ByteArray), prA acc ts = acc ++ allB ts
  | [], acc => by rw [prA_nil]; exact ByteArray.append_empty.symm
  | t :: ts, acc => by rw [prA_cons, prA_all ts]; show _ = acc ++ (prT t ++ (⟨#[10]⟩ ++ allB ts)); simp only [ByteArray.append_assoc]
theorem al_text : ∀ (ts : List T), (∀ t ∈ ts, riT t = true ∧ dpT t ≤ 64) → ∀ (p g : ByteArray) (acc : List T) (fuel : Nat), Skp g → ts.length < fuel → alF (xo (p ++ (g ++ allB ts))) fuel acc p.size = .ok (acc ++ ts) 0
  | [], _, p, g, acc, 0, hg, hf => by omega
  | [], _, p, g, acc, fuel + 1, hg, hf => by
    have hs : sk (xo (p ++ (g ++ allB []))) false p.size = p.size + g.size := by
      rw [hg p (allB []), sk_end (by rw [xo_n]; simp only [ByteArray.size_append]; show p.size + (g.size + 0) ≤ _; omega)]
    rw [alF, hs, if_neg (by rw [xo_n]; simp only [ByteArray.size_append]; show ¬ _ < p.size + (g.size + 0); omega), List.append_nil]
  | t :: ts, h, p, g, acc, 0, hg, hf => by omega
  | t :: ts, h, p, g, acc, fuel + 1, hg, hf => by
    obtain ⟨hr, hd⟩ := h t (by simp)
    have htk := core_tok (u := ⟨#[]⟩) (v := ⟨#[32]⟩) hr
    have hp := core_pos ⟨#[]⟩ ⟨#[32]⟩ t
    rw [← pr_core] at htk hp
    have ih := al_text ts (fun t ht => h t (by simp [ht])) (p ++ (g ++ prT t)) ⟨#[10]⟩ (acc ++ [t]) fuel skp_nl (by simp at hf; omega)
    obtain ⟨S, hS⟩ : ∃ S, S = p ++ (g ++ (prT t ++ (⟨#[10]⟩ ++ allB ts))) := ⟨_, rfl⟩
    rw [show p ++ (g ++ allB (t :: ts)) = S from hS.symm]
    rw [show (p ++ (g ++ prT t)) ++ (⟨#[10]⟩ ++ allB ts) = S from by rw [hS]; simp only [ByteArray.append_assoc]] at ih
    have hx := rt skp_nil skp_sp na_nil na_sp (by decide) t hr 64 hd (p ++ g) (⟨#[10]⟩ ++ allB ts) (na_app (fun _ => by decide) (fun e => by exact absurd e (by decide)))
    rw [← pr_core, show (p ++ g) ++ (prT t ++ (⟨#[10]⟩ ++ allB ts)) = S from by rw [hS]; simp only [ByteArray.append_assoc], ByteArray.size_append] at hx
    have hs : sk (xo S) false p.size = p.size + g.size := by
      rw [hS]
      exact skp_tok hg (by rw [ByteArray.size_append]; omega) (by rw [f_left (by omega)]; exact ⟨htk.1, htk.2.1⟩)
    have hn : p.size + g.size < (xo S).n := by rw [hS, xo_n]; simp only [ByteArray.size_append]; omega
    rw [alF, hs, if_pos hn, hx]
    show alF (xo S) fuel (acc ++ [t]) _ = _
    rw [show p.size + g.size + (prT t).size = (p ++ (g ++ prT t)).size by simp only [ByteArray.size_append]; omega, ih, List.append_assoc, List.singleton_append]
theorem printall_parse {ts : List T} (h : ∀ t ∈ ts, riT t = true ∧ dpT t ≤ 64) : allR (xo (prA ⟨#[]⟩ ts)) = .ok ts 0 := by
  have hge := prA_ge ts ⟨#[]⟩
  have := al_text ts h ⟨#[]⟩ ⟨#[]⟩ [] ((xo (prA ⟨#[]⟩ ts)).n + 1) skp_nil (by rw [xo_n]; omega)
  rw [show (⟨#[]⟩ : ByteArray) ++ ((⟨#[]⟩ : ByteArray) ++ allB ts) = prA ⟨#[]⟩ ts from by rw [prA_all]; congr 1] at this
  rw [List.nil_append] at this
  exact this
/-! what is read -/
theorem ae_bytes {x : X} : ∀ d i, x.n - i = d → ∀ m, i ≤ m → m < ae x i → ab (x.f m) = true := by
  intro d
  induction d with
  | zero => intro i hd m h1 h2; rw [ae_end (by omega)] at h2; omega
  | succ d ih =>
    intro i hd m h1 h2
    rw [ae_step (by omega)] at h2
    split at h2
    · rename_i hb
      by_cases hm : m = i
      · rw [hm]; exact hb
      · exact ih (i + 1) (by omega) m (by omega) h2
    · omega
theorem atB_of {a : ByteArray} (h : ∀ k, k < a.size → ab ((xo a).f k) = true) : atB a = true := by
  have h1 := ae_mid (p := ⟨#[]⟩) (q := ⟨#[]⟩) h na_nil a.size 0 (by omega)
  rw [show (⟨#[]⟩ : ByteArray) ++ (a ++ ⟨#[]⟩) = a from by rw [show a ++ (⟨#[]⟩ : ByteArray) = a from ByteArray.append_empty]; exact ByteArray.empty_append] at h1
  unfold atB
  rw [if_pos]
  have e : (⟨#[]⟩ : ByteArray).size = 0 := rfl
  rw [e] at h1
  simpa using h1
theorem ext_f {s : ByteArray} {i j k : Nat} (h : i + k < j) (hj : j ≤ s.size) : (xo (s.extract i j)).f k = (xo s).f (i + k) := by
  have hsz : k < (s.extract i j).size := by rw [ByteArray.size_extract]; omega
  rw [xo_f hsz, xo_f (by omega), ByteArray.getElem_extract]
/-- what a tree that is read keeps to -/
structure Gd (k m : Nat) (t : T) (d : Nat) : Prop where
  ri : riT t = true
  dp : dpT t ≤ k
  sz : szT t
  nd : nd t ≤ d
  pr : (prT t).size + 1 ≤ 2 * d
theorem el_good {x : X} {ex : Nat → R T} {k m : Nat} (h : ∀ i e j, i < x.n → ex i = .ok e j → i < j ∧ Gd k m e (j - i)) : ∀ fuel acc i l j, elF x ex fuel acc i = .ok l j → ∃ r, l = acc ++ r ∧ (∀ t ∈ r, riT t = true ∧ dpT t ≤ k ∧ szT t) ∧ i < j ∧ ndL r + 1 ≤ j - i ∧ (r.map fun t => (prT t).size + 1).sum + 2 ≤ 2 * (j - i)
  | 0, acc, i, l, j, q => by cases q
  | fuel + 1, acc, i, l, j, q => by
    unfold elF at q
    have h1 := sk_ge x false i
    split at q
    · rename_i hlt
      split at q
      · cases q
        exact ⟨[], by simp, fun t ht => by simp at ht, by omega, by rw [ndL_nil]; omega, by simp; omega⟩
      · split at q
        · rename_i e j' he
          obtain ⟨h2, hg⟩ := h _ _ _ hlt he
          obtain ⟨r, rfl, h3, h4, h5, h6⟩ := el_good h fuel _ _ _ _ q
          refine ⟨e :: r, by simp, fun t ht => ?_, by omega, ?_, ?_⟩
          · rcases List.mem_cons.1 ht with rfl | ht
            · exact ⟨hg.ri, hg.dp, hg.sz⟩
            · exact h3 t ht
          · rw [ndL_cons]
            have := hg.nd
            omega
          · simp only [List.map_cons, List.sum_cons]
            have := hg.pr
            omega
        · cases q
    · cases q
theorem ex_good {s : ByteArray} (hs : s.size ≤ 100000) : ∀ k i e j, i < s.size → exR (xo s) k i = .ok e j → i < j ∧ Gd k 0 e (j - i)
  | 0, i, e, j, hi, q => by unfold exR at q; split at q <;> cases q
  | k + 1, i, e, j, hi, q => by
    have hgt := (exR_gt _ _ _ _ (show i < (xo s).n from hi) q)
    refine ⟨hgt.1, ?_⟩
    unfold exR at q
    split at q
    · cases q
    · rename_i hc
      split at q
      · rename_i h4
        cases q
        have hle : ae (xo s) i ≤ s.size := ae_le (xo s) (Nat.le_of_lt hi)
        have hsz : (s.extract i (ae (xo s) i)).size = ae (xo s) i - i := by rw [ByteArray.size_extract, Nat.min_eq_left hle]
        have hne : (s.extract i (ae (xo s) i)).size ≠ 0 := by rw [hsz]; omega
        have hb : ∀ k, k < (s.extract i (ae (xo s) i)).size → ab ((xo (s.extract i (ae (xo s) i))).f k) = true := by
          intro k hk
          rw [hsz] at hk
          rw [ext_f (by omega) hle]
          exact ae_bytes _ i rfl (i + k) (by omega) (by omega)
        show Gd (k + 1) 0 (.mk (s.extract i (ae (xo s) i)) []) _
        refine ⟨?_, ?_, ?_, ?_, ?_⟩
        · rw [riT_mk, if_neg hne, if_pos (show ([] : List T).length = 0 from rfl)]; exact atB_of hb
        · rw [dpT_mk, if_neg hne]; omega
        · rw [szT_mk]; exact ⟨by rw [hsz]; omega, by rw [szL]; trivial⟩
        · rw [nd_mk, ndL_nil]; omega
        · rw [prT_mk, if_neg hne, hsz]; omega
      · split at q
        · rename_i l j' he
          cases q
          obtain ⟨r, h9, h3, h4, h5, h6⟩ := el_good (m := 0) (fun i e j hi h => ex_good hs k i e j hi h) _ _ _ _ _ he
          rw [List.nil_append] at h9
          subst h9
          have h7 := prT_list l
          refine ⟨?_, ?_, ?_, ?_, ?_⟩
          · rw [riT_mk, if_pos (show (⟨#[]⟩ : ByteArray).size = 0 from rfl)]; exact riL_iff.2 fun t ht => (h3 t ht).1
          · rw [dpT_mk, if_pos (show (⟨#[]⟩ : ByteArray).size = 0 from rfl)]
            have := dpL_le (m := 0) (n := k) (Nat.zero_le _) fun t ht => (h3 t ht).2.1
            omega
          · rw [szT_mk]; exact ⟨by decide, szL_iff.2 fun t ht => (h3 t ht).2.2⟩
          · rw [nd_mk]; omega
          · omega
        · cases q
theorem al_good {s : ByteArray} (hs : s.size ≤ 100000) : ∀ fuel acc i l j, i ≤ s.size → alF (xo s) fuel acc i = .ok l j → ∃ r, l = acc ++ r ∧ (∀ t ∈ r, riT t = true ∧ dpT t ≤ 64 ∧ szT t) ∧ ndL r + i ≤ s.size ∧ (r.map fun t => (prT t).size + 1).sum + 2 * i ≤ 2 * s.size
  | 0, acc, i, l, j, hi, q => by cases q; exact ⟨[], by simp, fun t ht => by simp at ht, by rw [ndL_nil]; omega, by simp; omega⟩
  | fuel + 1, acc, i, l, j, hi, q => by
    unfold alF at q
    have h1 := sk_ge (xo s) false i
    split at q
    · rename_i hlt
      split at q
      · rename_i e j' he
        obtain ⟨h2, hg⟩ := ex_good hs _ _ _ _ hlt he
        have h0 := (exR_gt _ _ _ _ hlt he).2
        obtain ⟨r, rfl, h3, h4, h5⟩ := al_good hs fuel _ _ _ _ h0 q
        refine ⟨e :: r, by simp, fun t ht => ?_, ?_, ?_⟩
        · rcases List.mem_cons.1 ht with rfl | ht
          · exact ⟨hg.ri, hg.dp, hg.sz⟩
          · exact h3 t ht
        · rw [ndL_cons]; have := hg.nd; omega
        · simp only [List.map_cons, List.sum_cons]; have := hg.pr; omega
      · cases q
    · cases q; exact ⟨[], by simp, fun t ht => by simp at ht, by rw [ndL_nil]; omega, by simp; omega⟩
theorem all_good {s : ByteArray} (hs : s.size ≤ 100000) {l : List T} {j : Nat} (h : allR (xo s) = .ok l j) : (∀ t ∈ l, riT t = true ∧ dpT t ≤ 64 ∧ szT t) ∧ ndL l ≤ s.size ∧ (l.map fun t => (prT t).size + 1).sum ≤ 2 * s.size := by
  obtain ⟨r, h1, h2, h3, h4⟩ := al_good hs _ _ _ _ _ (Nat.zero_le _) h
  rw [List.nil_append] at h1
  subst h1
  exact ⟨h2, by omega, by omega⟩
theorem prA_size : ∀ (ts : List T) (acc : ByteArray), (prA acc ts).size = acc.size + (ts.map fun t => (prT t).size + 1).sum
  | [], acc => by rw [prA_nil]; simp
  | t :: ts, acc => by
    rw [prA_cons, prA_size ts]
    simp only [List.map_cons, List.sum_cons, ByteArray.size_append]
    have h2 : (⟨#[10]⟩ : ByteArray).size = 1 := rfl
    omega
theorem ok_of (t : T) : nd t ≤ 1000000 → szT t → okT t := by
  induction t using T.ind with
  | h a ts ih =>
    intro h1 h2
    rw [nd_mk] at h1
    rw [szT_mk] at h2
    rw [okT_mk]
    have h3 := ndL_len ts
    exact ⟨by unfold maxLen; omega, by unfold maxLen; omega, okL_iff.2 fun t ht => ih t ht (by have := ndL_mem ht; omega) (szL_iff.1 h2.2 t ht)⟩
end Go.Proofs.Ytgiheheakgigkaa
