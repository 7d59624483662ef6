/- The two trees of a forest, without memory. -/
import Derived.Test.YtpnjmkmobdaefaaQ
namespace Go.Proofs.Ytpnjmkmobdaefaa
set_option linter.unusedVariables false
set_option linter.unusedSimpArgs false
/-- the other end of a link -/
def oth (l : L3) (x : Int) : Int := if l.a = x then l.b else l.a
theorem oth_jn {l : L3} {x : Int} (h : l.a = x ∨ l.b = x) : jn l x (oth l x) := by
  unfold oth
  by_cases e : l.a = x
  · rw [if_pos e]; exact .inl ⟨e, rfl⟩
  · rw [if_neg e]
    rcases h with h | h
    · exact absurd h e
    · exact .inr ⟨h, rfl⟩
def upd (f : Int → Option Nat) (x : Int) (v : Option Nat) : Int → Option Nat := fun y => if y = x then v else f y
theorem upd_same (f : Int → Option Nat) (x : Int) (v : Option Nat) : upd f x v x = v := if_pos rfl
theorem upd_other {f : Int → Option Nat} {x y : Int} {v : Option Nat} (h : y ≠ x) : upd f x v y = f y := if_neg h
def Ranked (M : List L3) (up : Int → Option Nat) (ρ : Int → Nat) : Prop := ∀ x k l, up x = some k → M[k]? = some l → ρ (oth l x) < ρ x
/-- the tree of links, but for one link that nothing leads along -/
structure UH (M : List L3) (up : Int → Option Nat) (h : Option Nat) : Prop where
  ends : ∀ x k, up x = some k → ∃ l, M[k]? = some l ∧ (l.a = x ∨ l.b = x)
  own : ∀ k l, some k ≠ h → M[k]? = some l → up l.a = some k ∨ up l.b = some k
  acc : ∃ ρ, Ranked M up ρ
abbrev UPI (M : List L3) (up : Int → Option Nat) : Prop := UH M up none
open Classical in
/-- a new edge from w to v, for a set closed under parents that has v and not w -/
theorem rank_link {M : List L3} {up : Int → Option Nat} {w v : Int} {k : Nat} {l : L3} {S : Int → Prop} (hr : ∃ ρ, Ranked M up ρ) (hS : ∀ x k l, S x → up x = some k → M[k]? = some l → S (oth l x)) (hv : S v) (hw : ¬ S w) (hk : M[k]? = some l) (ho : oth l w = v) : ∃ ρ, Ranked M (upd up w (some k)) ρ := by
  obtain ⟨ρ, hr⟩ := hr
  refine ⟨fun x => if S x then ρ x else ρ x + ρ v + 1, fun x j m hx hm => ?_⟩
  by_cases e : x = w
  · subst e
    rw [upd_same] at hx
    cases hx
    rw [hk] at hm
    cases hm
    simp only [ho, if_pos hv, if_neg hw]
    omega
  · rw [upd_other e] at hx
    have h1 := hr x j m hx hm
    by_cases c : S x
    · have c2 := hS x j m c hx hm
      simp only [if_pos c, if_pos c2]; exact h1
    · simp only [if_neg c]
      split <;> omega
theorem rank_del {M : List L3} {up : Int → Option Nat} {w : Int} (hr : ∃ ρ, Ranked M up ρ) : ∃ ρ, Ranked M (upd up w none) ρ := by
  obtain ⟨ρ, hr⟩ := hr
  refine ⟨ρ, fun x j m hx hm => ?_⟩
  by_cases e : x = w
  · subst e; rw [upd_same] at hx; cases hx
  · rw [upd_other e] at hx; exact hr x j m hx hm
theorem up_inj {M : List L3} {up : Int → Option Nat} {h : Option Nat} (u : UH M up h) {x y : Int} {k : Nat} (hx : up x = some k) (hy : up y = some k) : x = y := by
  obtain ⟨l, e1, e2⟩ := u.ends x k hx
  obtain ⟨l', e3, e4⟩ := u.ends y k hy
  rw [e1] at e3
  cases e3
  obtain ⟨ρ, hr⟩ := u.acc
  have h1 := hr x k l hx e1
  have h2 := hr y k l hy e1
  unfold oth at h1 h2
  rcases e2 with rfl | rfl <;> rcases e4 with rfl | rfl
  · rfl
  · rw [if_pos rfl] at h1
    split at h2
    · rename_i q; exact q
    · omega
  · rw [if_pos rfl] at h2
    split at h1
    · rename_i q; exact q.symm
    · omega
  · rfl
/-! turning -/
/-- where turning stands: at id, with the link h in hand -/
structure TI (M : List L3) (up0 : Int → Option Nat) (ρ : Int → Nat) (start : Int) (h : Option Nat) (id : Int) (up : Int → Option Nat) : Prop where
  u : UH M up h
  s0 : up start = none
  set : ∃ S : Int → Prop, S id ∧ S start ∧ (∀ x k l, S x → up x = some k → M[k]? = some l → S (oth l x)) ∧ ∀ x, S x → ρ id ≤ ρ x
  old : ∀ x, ρ x < ρ id → up x = up0 x
  hold : up0 id = h
theorem TI.start {M : List L3} {up : Int → Option Nat} {ρ : Int → Nat} (u : UPI M up) (id : Int) : TI M up ρ id (up id) id (upd up id none) := by
  refine ⟨⟨fun x k hx => ?_, fun k l hk hl => ?_, rank_del u.acc⟩, upd_same _ _ _, ⟨fun x => x = id, rfl, rfl, fun x k l hx hu _ => ?_, fun x hx => by rw [hx]; exact Nat.le_refl _⟩, fun x hx => upd_other (fun e => by subst e; omega), rfl⟩
  · by_cases e : x = id
    · subst e; rw [upd_same] at hx; cases hx
    · rw [upd_other e] at hx; exact u.ends x k hx
  · rcases u.own k l (by simp) hl with q | q
    · left
      rw [upd_other (fun e => by rw [e] at q; exact hk q.symm)]; exact q
    · right
      rw [upd_other (fun e => by rw [e] at q; exact hk q.symm)]; exact q
  · subst hx; rw [upd_same] at hu; cases hu
theorem TI.step {M : List L3} {up0 up : Int → Option Nat} {ρ : Int → Nat} {st id : Int} {k : Nat} {l : L3} (u0 : UPI M up0) (hr : Ranked M up0 ρ) (t : TI M up0 ρ st (some k) id up) (hl : M[k]? = some l) :
    TI M up0 ρ st (up (oth l id)) (oth l id) (upd up (oth l id) (some k)) ∧ ρ (oth l id) < ρ id := by
  have hlt : ρ (oth l id) < ρ id := hr id k l t.hold hl
  obtain ⟨S, s1, s2, s3, s4⟩ := t.set
  obtain ⟨l', e1, e2⟩ := u0.ends id k t.hold
  rw [hl] at e1
  cases e1
  have hj := oth_jn e2
  have hwS : ¬ S (oth l id) := fun h => by have := s4 _ h; omega
  have hback : oth l (oth l id) = id := by
    have hne : oth l id ≠ id := fun e => by rw [e] at hlt; omega
    rcases hj with ⟨a, b⟩ | ⟨a, b⟩
    · rw [← b]; unfold oth
      rw [if_neg (fun e => hne (by rw [← b, ← a, e])), a]
    · rw [← b]; unfold oth
      rw [if_pos rfl, a]
  have hend : l.a = oth l id ∨ l.b = oth l id := by
    rcases hj with ⟨a, b⟩ | ⟨a, b⟩
    · exact .inr b
    · exact .inl b
  refine ⟨⟨⟨fun x j hx => ?_, fun j m hj hm => ?_, rank_link t.u.acc s3 s1 hwS hl hback⟩, ?_, ⟨fun x => S x ∨ x = oth l id, .inr rfl, .inl s2, fun x j m hx hu hm => ?_, fun x hx => ?_⟩, fun x hx => ?_, ?_⟩, hlt⟩
  · by_cases e : x = oth l id
    · subst e; rw [upd_same] at hx; cases hx
      exact ⟨l, hl, hend⟩
    · rw [upd_other e] at hx; exact t.u.ends x j hx
  · by_cases e : j = k
    · subst e
      rw [hl] at hm
      cases hm
      rcases hend with q | q
      · left; rw [q, upd_same]
      · right; rw [q, upd_same]
    · rcases t.u.own j m (fun q => e (Option.some.inj q)) hm with q | q
      · left; rw [upd_other (fun e => by rw [e] at q; exact hj q.symm)]; exact q
      · right; rw [upd_other (fun e => by rw [e] at q; exact hj q.symm)]; exact q
  · rw [upd_other (fun e => hwS (by rw [← e]; exact s2))]; exact t.s0
  · by_cases e : x = oth l id
    · subst e
      rw [upd_same] at hu
      cases hu
      rw [hl] at hm
      cases hm
      rw [hback]; exact .inl s1
    · rw [upd_other e] at hu
      rcases hx with hx | hx
      · exact .inl (s3 x j m hx hu hm)
      · exact absurd hx e
  · rcases hx with hx | hx
    · have := s4 x hx; omega
    · rw [hx]; exact Nat.le_refl _
  · rw [upd_other (fun e => by subst e; omega)]
    exact t.old x (by omega)
  · exact (t.old _ hlt).symm
/-! adding and removing a link -/
theorem up_cr {M : List L3} {up : Int → Option Nat} {h : Option Nat} (u : UH M up h) {x : Int} {k : Nat} {l : L3} (hx : up x = some k) (hl : M[k]? = some l) : CR M.reverse x (oth l x) := by
  obtain ⟨l', e1, e2⟩ := u.ends x k hx
  rw [hl] at e1
  cases e1
  have : VT M.reverse x [(k, oth l x)] := ⟨⟨l, by rw [nth_rev]; exact hl, oth_jn e2⟩, trivial⟩
  exact vt_cr this
theorem UPI.link {M : List L3} {up : Int → Option Nat} (u : UPI M up) {l : L3} {from' : Int} (hf : l.a = from' ∨ l.b = from') (hn : up from' = none) (hc : ¬ CR M.reverse l.a l.b) : UPI (M ++ [l]) (upd up from' (some M.length)) := by
  have hold : ∀ x k, up x = some k → k < M.length := fun x k hx => by
    obtain ⟨l, e, _⟩ := u.ends x k hx
    exact (List.getElem?_eq_some_iff.1 e).1
  have hnew : (M ++ [l])[M.length]? = some l := by simp
  have hne : ¬ CR M.reverse (oth l from') from' := by
    intro h
    rcases oth_jn hf with ⟨a, b⟩ | ⟨a, b⟩
    · rw [← b, ← a] at h
      exact hc (cr_symm _ h)
    · rw [← b, ← a] at h
      exact hc h
  refine ⟨fun x k hx => ?_, fun k m _ hm => ?_, ?_⟩
  · by_cases e : x = from'
    · subst e; rw [upd_same] at hx; cases hx
      exact ⟨l, hnew, hf⟩
    · rw [upd_other e] at hx
      obtain ⟨m, e1, e2⟩ := u.ends x k hx
      exact ⟨m, by rw [List.getElem?_append_left (hold x k hx)]; exact e1, e2⟩
  · by_cases e : k < M.length
    · rw [List.getElem?_append_left e] at hm
      rcases u.own k m (by simp) hm with q | q
      · left; rw [upd_other (fun e => by rw [e, hn] at q; cases q)]; exact q
      · right; rw [upd_other (fun e => by rw [e, hn] at q; cases q)]; exact q
    · have hk := (List.getElem?_eq_some_iff.1 hm).1
      have e : k = M.length := by simp at hk; omega
      subst e
      rw [hnew] at hm
      cases hm
      rcases hf with q | q
      · left; rw [q, upd_same]
      · right; rw [q, upd_same]
  · obtain ⟨ρ, hr⟩ := u.acc
    have hr' : Ranked (M ++ [l]) up ρ := fun x k m hx hm => by
      rw [List.getElem?_append_left (hold x k hx)] at hm
      exact hr x k m hx hm
    refine rank_link (S := fun x => CR M.reverse (oth l from') x) ⟨ρ, hr'⟩ (fun x k m hx hu hm => ?_) (cr_refl _ _) hne hnew rfl
    rw [List.getElem?_append_left (hold x k hu)] at hm
    exact cr_trans _ hx (up_cr u hu hm)
theorem UPI.unlink {M : List L3} {up : Int → Option Nat} {l : L3} (u : UPI (M ++ [l]) up) {x : Int} (hx : up x = some M.length) : UPI M (upd up x none) := by
  have hlt : ∀ y k, y ≠ x → up y = some k → k < M.length := fun y k hy hk => by
    obtain ⟨m, e, _⟩ := u.ends y k hk
    have h1 := (List.getElem?_eq_some_iff.1 e).1
    have : k ≠ M.length := fun e => hy (up_inj u (hk.trans (by rw [e])) hx)
    simp at h1; omega
  refine ⟨fun y k hk => ?_, fun k m _ hm => ?_, ?_⟩
  · by_cases e : y = x
    · subst e; rw [upd_same] at hk; cases hk
    · rw [upd_other e] at hk
      obtain ⟨m, e1, e2⟩ := u.ends y k hk
      rw [List.getElem?_append_left (hlt y k e hk)] at e1
      exact ⟨m, e1, e2⟩
  · have hk := (List.getElem?_eq_some_iff.1 hm).1
    have hm' : (M ++ [l])[k]? = some m := by rw [List.getElem?_append_left hk]; exact hm
    rcases u.own k m (by simp) hm' with q | q
    · left; rw [upd_other (fun e => by rw [e, hx] at q; cases q; omega)]; exact q
    · right; rw [upd_other (fun e => by rw [e, hx] at q; cases q; omega)]; exact q
  · obtain ⟨ρ, hr⟩ := u.acc
    refine ⟨ρ, fun y k m hy hm => ?_⟩
    by_cases e : y = x
    · subst e; rw [upd_same] at hy; cases hy
    · rw [upd_other e] at hy
      exact hr y k m hy (by rw [List.getElem?_append_left (hlt y k e hy)]; exact hm)
/-! the way up -/
def UT (M : List L3) (up : Int → Option Nat) : Int → List (Nat × Int) → Prop
  | x, [] => True
  | x, (k, z) :: t => (up x = some k ∧ ∃ l, M[k]? = some l ∧ z = oth l x) ∧ UT M up z t
/-- the ids of a way up, without the last one -/
def vs : Int → List (Nat × Int) → List Int
  | x, [] => []
  | x, (k, z) :: t => x :: vs z t
theorem ut_app {M : List L3} {up : Int → Option Nat} : ∀ (x : Int) (s t : List (Nat × Int)), UT M up x (s ++ t) ↔ UT M up x s ∧ UT M up (en x s) t
  | x, [], t => by simp [UT, en]
  | x, (k, z) :: s, t => by
    show (_ ∧ UT M up z (s ++ t)) ↔ ((_ ∧ UT M up z s) ∧ UT M up (en z s) t)
    rw [ut_app z s t]; simp only [and_assoc]
theorem vs_app : ∀ (x : Int) (s t : List (Nat × Int)), vs x (s ++ t) = vs x s ++ vs (en x s) t
  | x, [], t => rfl
  | x, (k, z) :: s, t => by
    show x :: vs z (s ++ t) = (x :: vs z s) ++ vs (en z s) t
    rw [vs_app z s t]; rfl
theorem ut_vt {M : List L3} {up : Int → Option Nat} {h : Option Nat} (u : UH M up h) : ∀ {x : Int} {t : List (Nat × Int)}, UT M up x t → VT M.reverse x t
  | x, [], _ => trivial
  | x, (k, z) :: t, hu => by
    obtain ⟨⟨h1, l, h2, h3⟩, h4⟩ := hu
    obtain ⟨l', e1, e2⟩ := u.ends x k h1
    rw [h2] at e1
    cases e1
    subst h3
    exact ⟨⟨l, by rw [nth_rev]; exact h2, oth_jn e2⟩, ut_vt u h4⟩
theorem ut_own {M : List L3} {up : Int → Option Nat} {ρ : Int → Nat} (hr : Ranked M up ρ) : ∀ {x : Int} {t : List (Nat × Int)}, UT M up x t → ∀ k ∈ ix t, ∃ o ∈ vs x t, up o = some k
  | x, [], _, k, hk => by cases hk
  | x, (j, z) :: t, hu, k, hk => by
    obtain ⟨⟨h1, l, h2, h3⟩, h4⟩ := hu
    rcases List.mem_cons.1 hk with e | e
    · have e : k = j := e
      exact ⟨x, List.mem_cons_self, by rw [e]; exact h1⟩
    · obtain ⟨o, a, b⟩ := ut_own hr h4 k e
      exact ⟨o, List.mem_cons_of_mem _ a, b⟩
theorem ut_rank {M : List L3} {up : Int → Option Nat} {ρ : Int → Nat} (hr : Ranked M up ρ) : ∀ {x : Int} {t : List (Nat × Int)}, UT M up x t → (∀ o ∈ vs x t, ρ (en x t) < ρ o ∧ ρ o ≤ ρ x) ∧ ρ (en x t) ≤ ρ x
  | x, [], _ => ⟨fun o ho => (by cases ho), Nat.le_refl _⟩
  | x, (j, z) :: t, hu => by
    obtain ⟨⟨h1, l, h2, h3⟩, h4⟩ := hu
    obtain ⟨a, b⟩ := ut_rank hr h4
    have c := hr x j l h1 h2
    rw [← h3] at c
    refine ⟨fun o ho => ?_, ?_⟩
    · show ρ (en z t) < ρ o ∧ ρ o ≤ ρ x
      rcases List.mem_cons.1 ho with e | e
      · subst e; omega
      · have := a o e; omega
    · show ρ (en z t) ≤ ρ x
      omega
theorem ut_nodup {M : List L3} {up : Int → Option Nat} {h : Option Nat} (u : UH M up h) {ρ : Int → Nat} (hr : Ranked M up ρ) : ∀ {x : Int} {t : List (Nat × Int)}, UT M up x t → (ix t).Nodup
  | x, [], _ => List.nodup_nil
  | x, (j, z) :: t, hu => by
    obtain ⟨⟨h1, l, h2, h3⟩, h4⟩ := hu
    show (j :: ix t).Nodup
    refine List.nodup_cons.2 ⟨fun hj => ?_, ut_nodup u hr h4⟩
    obtain ⟨o, a, b⟩ := ut_own hr h4 j hj
    have c := hr x j l h1 h2
    have d := ((ut_rank hr h4).1 o a).2
    rw [← h3] at c
    have e := up_inj u h1 b
    subst e
    omega
theorem vs_ix {t : List (Nat × Int)} : ∀ {x : Int}, (vs x t).length = t.length := by
  induction t with
  | nil => intro x; rfl
  | cons p t ih => intro x; obtain ⟨k, z⟩ := p; show (x :: vs z t).length = _; simp [ih]
/-- two ways up that have only their last id in common make the path -/
theorem ut_path {M : List L3} {up : Int → Option Nat} (hw : WFR M.reverse) (u : UPI M up) {a b : Int} {s t : List (Nat × Int)} (hs : UT M up a s) (ht : UT M up b t) (he : en a s = en b t) (hd : ∀ o ∈ vs a s, o ∉ vs b t) : PR M.reverse a b = some (lk M.reverse a s ++ (lk M.reverse b t).reverse.map turnL) := by
  obtain ⟨ρ, hr⟩ := u.acc
  have h1 := ut_vt u hs
  have h2 := vt_rv (ut_vt u ht)
  rw [← he] at h2
  have hv : VT M.reverse a (s ++ rv b t) := (vt_app _ _ _ _).2 ⟨h1, h2⟩
  have hn : (ix (s ++ rv b t)).Nodup := by
    rw [ix_app, List.nodup_append, ix_rv]
    refine ⟨ut_nodup u hr hs, (List.reverse_perm _).nodup_iff.2 (ut_nodup u hr ht), fun i hi j hj e => ?_⟩
    subst e
    obtain ⟨o, o1, o2⟩ := ut_own hr hs i hi
    obtain ⟨o', p1, p2⟩ := ut_own hr ht i (List.mem_reverse.1 hj)
    have := up_inj u o2 p2
    subst this
    exact hd o o1 p1
  have := tr_path hw hv hn
  rw [en_app, he, en_rv, lk_app, he, lk_rv] at this
  exact this
/-- in one tree there is one root -/
theorem root_uniq {M : List L3} {up : Int → Option Nat} (hw : WFR M.reverse) (u : UPI M up) {a b : Int} (hc : CR M.reverse a b) (ha : up a = none) (hb : up b = none) : a = b := by
  obtain ⟨p, hp⟩ := (cr_iff _ _ _).1 hc
  obtain ⟨t, t1, t2, t3, _⟩ := pr_trail hp
  have key : ∀ (t : List (Nat × Int)) (x : Int), VT M.reverse x t → (ix t).Nodup → (∀ k ∈ ix t, up x ≠ some k) → up (en x t) = none → t = [] := by
    intro t
    induction t with
    | nil => intros; rfl
    | cons q t ih =>
      obtain ⟨k, z⟩ := q
      intro x h1 h2 h3 h4
      exfalso
      obtain ⟨⟨l, e1, e2⟩, e3⟩ := h1
      rw [nth_rev] at e1
      have hz : up z = some k := by
        rcases u.own k l (by simp) e1 with q | q
        · rcases e2 with ⟨p1, p2⟩ | ⟨p1, p2⟩
          · rw [p1] at q; exact absurd q (h3 k List.mem_cons_self)
          · rw [p2] at q; exact q
        · rcases e2 with ⟨p1, p2⟩ | ⟨p1, p2⟩
          · rw [p2] at q; exact q
          · rw [p1] at q; exact absurd q (h3 k List.mem_cons_self)
      have h2' : (k :: ix t).Nodup := h2
      rw [List.nodup_cons] at h2'
      have := ih z e3 h2'.2 (fun j hj e => by rw [hz] at e; cases e; exact h2'.1 hj) h4
      subst this
      have h4 : up z = none := h4
      rw [hz] at h4; cases h4
  have := key t a t1 t2 (fun k _ => by rw [ha]; simp) (by rw [t3]; exact hb)
  subst this
  exact t3
/-- where the search for the common id stands -/
structure MI (M : List L3) (up : Int → Option Nat) (a b : Int) (id other : Int) (ps : List Int) : Prop where
  st : ∃ (c d : Int) (s t : List (Nat × Int)), ((c = b ∧ d = a) ∨ (c = a ∧ d = b)) ∧ UT M up c s ∧ UT M up d t ∧ en c s = id ∧ en d t = other ∧ (∀ x, x ∈ ps ↔ x ∈ vs c s ∨ x ∈ vs d t ∨ x = other) ∧ (∀ o ∈ vs c s, o ∉ vs d t ∧ o ≠ other) ∧ ps.length = s.length + t.length + 1
theorem MI.start (M : List L3) (up : Int → Option Nat) (a b : Int) : MI M up a b b a [a] :=
  ⟨b, a, [], [], .inl ⟨rfl, rfl⟩, trivial, trivial, rfl, rfl, fun x => by simp [vs], fun o ho => (by cases ho), rfl⟩
/-- the id passed before is the common one -/
theorem MI.hit {M : List L3} {up : Int → Option Nat} {a b id other : Int} {ps : List Int} (u : UPI M up) (h : MI M up a b id other ps) (hm : id ∈ ps) : ∃ s t, UT M up a s ∧ UT M up b t ∧ en a s = id ∧ en b t = id ∧ ∀ o ∈ vs a s, o ∉ vs b t := by
  obtain ⟨c, d, s, t, hcd, h1, h2, h3, h4, h5, h6, h7⟩ := h.st
  obtain ⟨ρ, hr⟩ := u.acc
  have hc : ∃ t1 t2, t = t1 ++ t2 ∧ en d t1 = id := by
    rcases (h5 id).1 hm with q | q | q
    · have := ((ut_rank hr h1).1 id q).1
      rw [h3] at this; omega
    · clear hcd h4 h5 h6 h7
      induction t generalizing d with
      | nil => cases q
      | cons p t ih =>
        obtain ⟨k, z⟩ := p
        rcases List.mem_cons.1 q with e | e
        · exact ⟨[], _, rfl, e.symm⟩
        · obtain ⟨t1, t2, e1, e2⟩ := ih z h2.2 e
          exact ⟨(k, z) :: t1, t2, by rw [e1]; rfl, e2⟩
    · exact ⟨t, [], by simp, by rw [h4, q]⟩
  obtain ⟨t1, t2, rfl, e⟩ := hc
  have g2 := ((ut_app _ _ _).1 h2).1
  have g6 : ∀ o ∈ vs c s, o ∉ vs d t1 := fun o ho hq => (h6 o ho).1 (by rw [vs_app]; exact List.mem_append_left _ hq)
  rcases hcd with ⟨rfl, rfl⟩ | ⟨rfl, rfl⟩
  · exact ⟨t1, s, g2, h1, e, h3, fun o ho hq => g6 o hq ho⟩
  · exact ⟨s, t1, h1, g2, h3, e, g6⟩
theorem MI.swap {M : List L3} {up : Int → Option Nat} {a b id other : Int} {ps : List Int} {k : Nat} {l : L3} (h : MI M up a b id other ps) (hm : id ∉ ps) (hu : up other = some k) (hl : M[k]? = some l) : MI M up a b (oth l other) id (id :: ps) := by
  obtain ⟨c, d, s, t, hcd, h1, h2, h3, h4, h5, h6, h7⟩ := h.st
  rw [h5] at hm
  refine ⟨d, c, t ++ [(k, oth l other)], s, hcd.symm.imp (fun ⟨x, y⟩ => ⟨y, x⟩) (fun ⟨x, y⟩ => ⟨y, x⟩), (ut_app _ _ _).2 ⟨h2, ⟨by rw [h4]; exact hu, l, hl, by rw [h4]⟩, trivial⟩, h1, by rw [en_app]; rfl, h3, fun x => ?_, fun o ho => ?_, by simp; omega⟩
  · rw [vs_app, List.mem_cons, List.mem_append, h5, h4]
    have : x ∈ vs other [(k, oth l other)] ↔ x = other := by simp [vs]
    rw [this]
    constructor
    · rintro (q | q | q | q)
      · exact .inr (.inr q)
      · exact .inr (.inl q)
      · exact .inl (.inl q)
      · exact .inl (.inr q)
    · rintro ((q | q) | q | q)
      · exact .inr (.inr (.inl q))
      · exact .inr (.inr (.inr q))
      · exact .inr (.inl q)
      · exact .inl q
  · rw [vs_app, List.mem_append, h4] at ho
    have e : o ∈ vs d t ∨ o = other := by
      rcases ho with q | q
      · exact .inl q
      · exact .inr (by simpa [vs] using q)
    refine ⟨fun q => ?_, fun q => hm (q ▸ .inr e)⟩
    rcases e with e | e
    · exact (h6 o q).1 e
    · exact (h6 o q).2 e
theorem MI.climb {M : List L3} {up : Int → Option Nat} {a b id other : Int} {ps : List Int} {k : Nat} {l : L3} (h : MI M up a b id other ps) (hm : id ∉ ps) (hu : up id = some k) (hl : M[k]? = some l) : MI M up a b (oth l id) other (id :: ps) := by
  obtain ⟨c, d, s, t, hcd, h1, h2, h3, h4, h5, h6, h7⟩ := h.st
  rw [h5] at hm
  refine ⟨c, d, s ++ [(k, oth l id)], t, hcd, (ut_app _ _ _).2 ⟨h1, ⟨by rw [h3]; exact hu, l, hl, by rw [h3]⟩, trivial⟩, h2, by rw [en_app]; rfl, h4, fun x => ?_, fun o ho => ?_, by simp; omega⟩
  · rw [vs_app, List.mem_cons, List.mem_append, h5, h3]
    have : x ∈ vs id [(k, oth l id)] ↔ x = id := by simp [vs]
    rw [this]
    constructor
    · rintro (q | q | q | q)
      · exact .inl (.inr q)
      · exact .inl (.inl q)
      · exact .inr (.inl q)
      · exact .inr (.inr q)
    · rintro ((q | q) | q | q)
      · exact .inr (.inl q)
      · exact .inl q
      · exact .inr (.inr (.inl q))
      · exact .inr (.inr (.inr q))
  · rw [vs_app, List.mem_append, h3] at ho
    rcases ho with q | q
    · exact h6 o q
    · have q : o = id := by simpa [vs] using q
      subst q
      exact ⟨fun q => hm (.inr (.inl q)), fun q => hm (.inr (.inr q))⟩
theorem MI.going {M : List L3} {up : Int → Option Nat} {a b id other : Int} {ps : List Int} (hw : WFR M.reverse) (u : UPI M up) (hab : CR M.reverse a b) (h : MI M up a b id other ps) (hm : id ∉ ps) (ho : up other = none) : up id ≠ none := by
  intro hi
  obtain ⟨c, d, s, t, hcd, h1, h2, h3, h4, h5, h6, h7⟩ := h.st
  have e1 := vt_cr (ut_vt u h1)
  have e2 := vt_cr (ut_vt u h2)
  rw [h3] at e1
  rw [h4] at e2
  have hcd' : CR M.reverse c d := by
    rcases hcd with ⟨rfl, rfl⟩ | ⟨rfl, rfl⟩
    · exact cr_symm _ hab
    · exact hab
  have := root_uniq hw u (cr_trans _ (cr_symm _ e1) (cr_trans _ hcd' e2)) hi ho
  exact hm ((h5 id).2 (.inr (.inr this)))
theorem MI.len {M : List L3} {up : Int → Option Nat} {a b id other : Int} {ps : List Int} (u : UPI M up) (h : MI M up a b id other ps) : ∃ n m, ps.length = n + m + 1 ∧ ∃ s t : List Nat, s.length = n ∧ t.length = m ∧ s.Nodup ∧ t.Nodup ∧ (∀ k ∈ s, k < M.length) ∧ ∀ k ∈ t, k < M.length := by
  obtain ⟨c, d, s, t, hcd, h1, h2, h3, h4, h5, h6, h7⟩ := h.st
  obtain ⟨ρ, hr⟩ := u.acc
  refine ⟨s.length, t.length, h7, ix s, ix t, by simp [ix], by simp [ix], ut_nodup u hr h1, ut_nodup u hr h2, fun k hk => ?_, fun k hk => ?_⟩
  · simpa using ix_lt (ut_vt u h1) k hk
  · simpa using ix_lt (ut_vt u h2) k hk
/-! the flatter tree -/
def OV : List L3 → List Int → (Int → Option Int) → Prop
  | [], [], o => ∀ x, o x = none
  | l :: L, c :: C, o => ∃ r o', OV L C o' ∧ o' c = none ∧ o' r = none ∧ c ≠ r ∧ ((CR L l.a c ∧ CR L l.b r) ∨ (CR L l.a r ∧ CR L l.b c)) ∧ ∀ x, o x = if x = c then some r else o' x
  | _, _, _ => False
theorem ov_len : ∀ {L : List L3} {C : List Int} {o : Int → Option Int}, OV L C o → C.length = L.length
  | [], [], _, _ => rfl
  | l :: L, c :: C, o, h => by
    obtain ⟨r, o', h, _⟩ := h
    simp [ov_len h]
theorem ov_cr : ∀ {L : List L3} {C : List Int} {o : Int → Option Int}, OV L C o → ∀ x y, o x = some y → CR L x y
  | [], [], o, h, x, y, e => by rw [h x] at e; cases e
  | l :: L, c :: C, o, h, x, y, e => by
    obtain ⟨r, o', h0, h1, h2, h3, h4, h5⟩ := h
    rw [h5] at e
    split at e
    · rename_i q
      cases e
      subst q
      rcases h4 with ⟨p, q⟩ | ⟨p, q⟩
      · exact .inr (.inl ⟨cr_symm _ p, q⟩)
      · exact .inr (.inr ⟨cr_symm _ q, p⟩)
    · exact .inl (ov_cr h0 x y e)
theorem ov_rank : ∀ {L : List L3} {C : List Int} {o : Int → Option Int}, OV L C o → ∃ ρ : Int → Nat, ∀ x y, o x = some y → ρ y < ρ x
  | [], [], o, h => ⟨fun _ => 0, fun x y e => by rw [h x] at e; cases e⟩
  | l :: L, c :: C, o, h => by
    obtain ⟨r, o', h0, h1, h2, h3, h4, h5⟩ := h
    obtain ⟨ρ, hr⟩ := ov_rank h0
    refine ⟨fun x => if x = r then ρ x else ρ x + ρ r + 1, fun x y e => ?_⟩
    rw [h5] at e
    split at e
    · rename_i q
      cases e
      subst q
      simp only [if_neg h3, if_true]; omega
    · have hx : x ≠ r := fun q => by rw [q, h2] at e; cases e
      have := hr x y e
      simp only [if_neg hx]
      by_cases q : y = r
      · subst q; rw [if_pos rfl]; omega
      · rw [if_neg q]; omega
theorem ov_root : ∀ {L : List L3} {C : List Int} {o : Int → Option Int}, OV L C o → ∀ x y, o x = none → o y = none → CR L x y → x = y
  | [], [], o, h, x, y, _, _, e => e
  | l :: L, c :: C, o, h, x, y, ex, ey, e => by
    obtain ⟨r, o', h0, h1, h2, h3, h4, h5⟩ := h
    have ux : x ≠ c ∧ o' x = none := by
      rw [h5] at ex; split at ex
      · cases ex
      · exact ⟨by assumption, ex⟩
    have uy : y ≠ c ∧ o' y = none := by
      rw [h5] at ey; split at ey
      · cases ey
      · exact ⟨by assumption, ey⟩
    have R := ov_root h0
    rcases e with e | ⟨e, e'⟩ | ⟨e, e'⟩
    · exact R x y ux.2 uy.2 e
    · exfalso
      rcases h4 with ⟨p, q⟩ | ⟨p, q⟩
      · exact ux.1 (R x c ux.2 h1 (cr_trans _ e p))
      · exact uy.1 (R y c uy.2 h1 (cr_trans _ (cr_symm _ e') q))
    · exfalso
      rcases h4 with ⟨p, q⟩ | ⟨p, q⟩
      · exact uy.1 (R y c uy.2 h1 (cr_trans _ (cr_symm _ e') p))
      · exact ux.1 (R x c ux.2 h1 (cr_trans _ e q))
end Go.Proofs.Ytpnjmkmobdaefaa
