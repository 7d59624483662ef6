/- Forests of links, without memory: connected ids, trails, paths. -/
namespace Go.Proofs.Ytpnjmkmobdaefaa
set_option linter.unusedVariables false
set_option linter.unusedSimpArgs false
/-- a link -/
structure L3 where
  a : Int
  b : Int
  y : Int
def turnL (l : L3) : L3 := ⟨l.b, l.a, l.y⟩
/-- the path between two ids, for links with the newest one first -/
def PR : List L3 → Int → Int → Option (List L3)
  | [], x, y => if x = y then some [] else none
  | l :: L, x, y =>
    match PR L x y with
    | some p => some p
    | none =>
      match PR L x l.a, PR L l.b y with
      | some p, some q => some (p ++ l :: q)
      | _, _ =>
        match PR L x l.b, PR L l.a y with
        | some p, some q => some (p ++ turnL l :: q)
        | _, _ => none
/-- connected -/
def CR : List L3 → Int → Int → Prop
  | [], x, y => x = y
  | l :: L, x, y => CR L x y ∨ (CR L x l.a ∧ CR L l.b y) ∨ (CR L x l.b ∧ CR L l.a y)
theorem cr_refl : ∀ (L : List L3) (x : Int), CR L x x
  | [], x => rfl
  | l :: L, x => .inl (cr_refl L x)
theorem cr_symm : ∀ (L : List L3) {x y : Int}, CR L x y → CR L y x
  | [], x, y, h => Eq.symm h
  | l :: L, x, y, h => by
    rcases h with h | ⟨h, k⟩ | ⟨h, k⟩
    · exact .inl (cr_symm L h)
    · exact .inr (.inr ⟨cr_symm L k, cr_symm L h⟩)
    · exact .inr (.inl ⟨cr_symm L k, cr_symm L h⟩)
theorem cr_trans : ∀ (L : List L3) {x y z : Int}, CR L x y → CR L y z → CR L x z
  | [], x, y, z, h, k => Eq.trans h k
  | l :: L, x, y, z, h, k => by
    rcases h with h | ⟨h, h'⟩ | ⟨h, h'⟩ <;> rcases k with k | ⟨k, k'⟩ | ⟨k, k'⟩
    · exact .inl (cr_trans L h k)
    · exact .inr (.inl ⟨cr_trans L h k, k'⟩)
    · exact .inr (.inr ⟨cr_trans L h k, k'⟩)
    · exact .inr (.inl ⟨h, cr_trans L h' k⟩)
    · exact .inr (.inl ⟨h, k'⟩)
    · exact .inl (cr_trans L h k')
    · exact .inr (.inr ⟨h, cr_trans L h' k⟩)
    · exact .inl (cr_trans L h k')
    · exact .inr (.inr ⟨h, k'⟩)
theorem cr_iff : ∀ (L : List L3) (x y : Int), CR L x y ↔ ∃ p, PR L x y = some p
  | [], x, y => by
    unfold CR PR
    constructor
    · intro h; exact ⟨[], if_pos h⟩
    · rintro ⟨p, h⟩
      split at h
      · assumption
      · cases h
  | l :: L, x, y => by
    have h1 := cr_iff L x y
    have h2 := cr_iff L x l.a
    have h3 := cr_iff L l.b y
    have h4 := cr_iff L x l.b
    have h5 := cr_iff L l.a y
    unfold CR PR
    rw [h1, h2, h3, h4, h5]
    cases e1 : PR L x y <;> cases e2 : PR L x l.a <;> cases e3 : PR L l.b y <;> cases e4 : PR L x l.b <;> cases e5 : PR L l.a y <;> simp
theorem pr_none {L : List L3} {x y : Int} (h : ¬ CR L x y) : PR L x y = none := by
  cases e : PR L x y with
  | none => rfl
  | some p => exact absurd ((cr_iff L x y).2 ⟨p, e⟩) h
/-- a forest -/
def WFR : List L3 → Prop
  | [] => True
  | l :: L => WFR L ∧ ¬ CR L l.a l.b ∧ 0 ≤ l.a ∧ 0 ≤ l.b
/-- the k-th link, from the oldest -/
def nth : List L3 → Nat → Option L3
  | [], _ => none
  | l :: L, k => if k = L.length then some l else nth L k
theorem nth_lt : ∀ {L : List L3} {k : Nat} {l : L3}, nth L k = some l → k < L.length
  | [], k, l, h => by cases h
  | m :: L, k, l, h => by
    unfold nth at h
    split at h
    · simp; omega
    · have := nth_lt h; simp; omega
theorem nth_old {L : List L3} {m : L3} {k : Nat} (h : k ≠ L.length) : nth (m :: L) k = nth L k := by
  rw [nth, if_neg h]
theorem nth_new (L : List L3) (m : L3) : nth (m :: L) L.length = some m := by
  rw [nth, if_pos rfl]
theorem nth_some : ∀ {L : List L3} {k : Nat}, k < L.length → ∃ l, nth L k = some l
  | m :: L, k, h => by
    by_cases e : k = L.length
    · subst e; exact ⟨m, nth_new L m⟩
    · rw [nth_old e]; exact nth_some (by simp at h; omega)
/-- x and z are the ends -/
def jn (l : L3) (x z : Int) : Prop := (l.a = x ∧ l.b = z) ∨ (l.b = x ∧ l.a = z)
def VT (L : List L3) : Int → List (Nat × Int) → Prop
  | x, [] => True
  | x, (k, z) :: t => (∃ l, nth L k = some l ∧ jn l x z) ∧ VT L z t
def en : Int → List (Nat × Int) → Int
  | x, [] => x
  | x, (k, z) :: t => en z t
def whyAt (L : List L3) (k : Nat) : Int := match nth L k with | some l => l.y | none => 0
def lk (L : List L3) : Int → List (Nat × Int) → List L3
  | x, [] => []
  | x, (k, z) :: t => ⟨x, z, whyAt L k⟩ :: lk L z t
def ix (t : List (Nat × Int)) : List Nat := t.map Prod.fst
theorem en_app : ∀ (x : Int) (s t : List (Nat × Int)), en x (s ++ t) = en (en x s) t
  | x, [], t => rfl
  | x, (k, z) :: s, t => en_app z s t
theorem vt_app (L : List L3) : ∀ (x : Int) (s t : List (Nat × Int)), VT L x (s ++ t) ↔ VT L x s ∧ VT L (en x s) t
  | x, [], t => by simp [VT, en]
  | x, (k, z) :: s, t => by
    show (_ ∧ VT L z (s ++ t)) ↔ ((_ ∧ VT L z s) ∧ VT L (en z s) t)
    rw [vt_app L z s t, and_assoc]
theorem lk_app (L : List L3) : ∀ (x : Int) (s t : List (Nat × Int)), lk L x (s ++ t) = lk L x s ++ lk L (en x s) t
  | x, [], t => rfl
  | x, (k, z) :: s, t => by
    show _ :: lk L z (s ++ t) = (_ :: lk L z s) ++ lk L (en z s) t
    rw [lk_app L z s t]; rfl
theorem ix_app (s t : List (Nat × Int)) : ix (s ++ t) = ix s ++ ix t := by simp [ix]
theorem vt_old {L : List L3} {m : L3} : ∀ {x : Int} {t : List (Nat × Int)}, L.length ∉ ix t → (VT (m :: L) x t ↔ VT L x t)
  | x, [], h => Iff.rfl
  | x, (k, z) :: t, h => by
    have h1 : k ≠ L.length := fun e => h (by simp [ix, e])
    have h2 : L.length ∉ ix t := fun e => h (List.mem_cons_of_mem _ e)
    show ((∃ l, nth (m :: L) k = some l ∧ jn l x z) ∧ VT (m :: L) z t) ↔ _
    rw [nth_old h1, vt_old h2]; rfl
theorem lk_old {L : List L3} {m : L3} : ∀ {x : Int} {t : List (Nat × Int)}, L.length ∉ ix t → lk (m :: L) x t = lk L x t
  | x, [], h => rfl
  | x, (k, z) :: t, h => by
    have h1 : k ≠ L.length := fun e => h (by simp [ix, e])
    have h2 : L.length ∉ ix t := fun e => h (List.mem_cons_of_mem _ e)
    show (⟨x, z, whyAt (m :: L) k⟩ : L3) :: lk (m :: L) z t = ⟨x, z, whyAt L k⟩ :: lk L z t
    rw [lk_old h2]; unfold whyAt; rw [nth_old h1]
theorem ix_lt {L : List L3} : ∀ {x : Int} {t : List (Nat × Int)}, VT L x t → ∀ k ∈ ix t, k < L.length
  | x, [], h, k, hk => by cases hk
  | x, (j, z) :: t, h, k, hk => by
    rcases List.mem_cons.1 hk with e | e
    · obtain ⟨⟨l, h1, _⟩, _⟩ := h
      have := nth_lt h1
      show k < L.length
      have e : k = j := e
      omega
    · exact ix_lt h.2 k e
/-- what lies on a trail is connected -/
theorem vt_cr : ∀ {L : List L3} {x : Int} {t : List (Nat × Int)}, VT L x t → CR L x (en x t) := by
  intro L
  have step : ∀ (L : List L3) (k : Nat) (l : L3) (x z : Int), nth L k = some l → jn l x z → CR L x z := by
    intro L
    induction L with
    | nil => intro k l x z h; cases h
    | cons m L ih =>
      intro k l x z h hj
      by_cases e : k = L.length
      · subst e
        rw [nth_new] at h
        cases h
        rcases hj with ⟨rfl, rfl⟩ | ⟨rfl, rfl⟩
        · exact .inr (.inl ⟨cr_refl _ _, cr_refl _ _⟩)
        · exact .inr (.inr ⟨cr_refl _ _, cr_refl _ _⟩)
      · rw [nth_old e] at h
        exact .inl (ih k l x z h hj)
  intro x t
  induction t generalizing x with
  | nil => intro _; exact cr_refl _ _
  | cons p t ih =>
    obtain ⟨k, z⟩ := p
    rintro ⟨⟨l, h1, h2⟩, h3⟩
    exact cr_trans L (step L k l x z h1 h2) (ih h3)
/-- a trail that uses the newest link once -/
theorem vt_split {L : List L3} {m : L3} {x : Int} {t : List (Nat × Int)} (h : VT (m :: L) x t) (hn : (ix t).Nodup) (hm : L.length ∈ ix t) :
    ∃ s z r, t = s ++ (L.length, z) :: r ∧ VT L x s ∧ VT L z r ∧ jn m (en x s) z ∧ L.length ∉ ix s ∧ L.length ∉ ix r ∧ (ix s).Nodup ∧ (ix r).Nodup := by
  obtain ⟨p, hp, e⟩ := List.mem_map.1 hm
  obtain ⟨s, r, rfl⟩ := List.append_of_mem hp
  obtain ⟨k, z⟩ := p
  have e : k = L.length := e
  subst e
  have hn' : (ix s ++ L.length :: ix r).Nodup := by rw [ix_app] at hn; exact hn
  rw [List.nodup_append, List.nodup_cons] at hn'
  obtain ⟨n1, ⟨n2, n3⟩, n4⟩ := hn'
  have n5 : L.length ∉ ix s := fun q => n4 _ q _ (by simp) rfl
  rw [vt_app] at h
  obtain ⟨h1, ⟨l, h2, h3⟩, h4⟩ := h
  rw [nth_new] at h2
  cases h2
  exact ⟨s, z, r, rfl, (vt_old n5).1 h1, (vt_old n2).1 h4, h3, n5, n2, n1, n3⟩
/-- the trail between two ids is unique -/
theorem vt_uniq : ∀ {L : List L3} {x : Int} {t t' : List (Nat × Int)}, WFR L → VT L x t → VT L x t' → (ix t).Nodup → (ix t').Nodup → en x t = en x t' → t = t' := by
  intro L
  induction L with
  | nil =>
    intro x t t' _ h h' _ _ _
    cases t with
    | cons p t => obtain ⟨⟨l, h1, _⟩, _⟩ := h; cases h1
    | nil =>
      cases t' with
      | cons p t' => obtain ⟨⟨l, h1, _⟩, _⟩ := h'; cases h1
      | nil => rfl
  | cons m L ih =>
    intro x t t' hw h h' hn hn' he
    obtain ⟨w1, w2, _⟩ := hw
    by_cases c : L.length ∈ ix t <;> by_cases c' : L.length ∈ ix t'
    · obtain ⟨s, z, r, rfl, a1, a2, a3, _, _, a6, a7⟩ := vt_split h hn c
      obtain ⟨s', z', r', rfl, b1, b2, b3, _, _, b6, b7⟩ := vt_split h' hn' c'
      rw [en_app, en_app] at he
      have he : en z r = en z' r' := he
      rcases a3 with ⟨p1, p2⟩ | ⟨p1, p2⟩ <;> rcases b3 with ⟨q1, q2⟩ | ⟨q1, q2⟩
      · rw [ih w1 a1 b1 a6 b6 (by rw [← p1, ← q1])]
        have ez : z = z' := by rw [← p2, ← q2]
        subst ez
        rw [ih w1 a2 b2 a7 b7 he]
      · exfalso; apply w2
        have u := vt_cr a1; have v := vt_cr b1
        rw [← p1] at u; rw [← q1] at v
        exact cr_trans L (cr_symm L u) v
      · exfalso; apply w2
        have u := vt_cr a1; have v := vt_cr b1
        rw [← p1] at u; rw [← q1] at v
        exact cr_trans L (cr_symm L v) u
      · rw [ih w1 a1 b1 a6 b6 (by rw [← p1, ← q1])]
        have ez : z = z' := by rw [← p2, ← q2]
        subst ez
        rw [ih w1 a2 b2 a7 b7 he]
    · exfalso; apply w2
      obtain ⟨s, z, r, rfl, a1, a2, a3, _, _, a6, a7⟩ := vt_split h hn c
      have b := vt_cr ((vt_old c').1 h')
      rw [← he, en_app] at b
      have b : CR L x (en z r) := b
      have u := vt_cr a1; have v := vt_cr a2
      rcases a3 with ⟨p1, p2⟩ | ⟨p1, p2⟩
      · rw [← p1] at u
        have q := cr_trans L (cr_symm L u) (cr_trans L b (cr_symm L v))
        rw [← p2] at q; exact q
      · rw [← p1] at u
        have q := cr_trans L (cr_symm L u) (cr_trans L b (cr_symm L v))
        rw [← p2] at q; exact cr_symm L q
    · exfalso; apply w2
      obtain ⟨s, z, r, rfl, a1, a2, a3, _, _, a6, a7⟩ := vt_split h' hn' c'
      have b := vt_cr ((vt_old c).1 h)
      rw [he, en_app] at b
      have b : CR L x (en z r) := b
      have u := vt_cr a1; have v := vt_cr a2
      rcases a3 with ⟨p1, p2⟩ | ⟨p1, p2⟩
      · rw [← p1] at u
        have q := cr_trans L (cr_symm L u) (cr_trans L b (cr_symm L v))
        rw [← p2] at q; exact q
      · rw [← p1] at u
        have q := cr_trans L (cr_symm L u) (cr_trans L b (cr_symm L v))
        rw [← p2] at q; exact cr_symm L q
    · exact ih w1 ((vt_old c).1 h) ((vt_old c').1 h') hn hn' he
/-- a link of a trail is connected with both its ends -/
theorem vt_touch {L : List L3} {x : Int} {t : List (Nat × Int)} (h : VT L x t) {k : Nat} (hk : k ∈ ix t) : ∃ s u r z l, t = s ++ (k, z) :: r ∧ u = en x s ∧ nth L k = some l ∧ jn l u z ∧ VT L x s ∧ VT L z r ∧ CR L x u ∧ CR L u z := by
  obtain ⟨p, hp, e⟩ := List.mem_map.1 hk
  obtain ⟨s, r, rfl⟩ := List.append_of_mem hp
  obtain ⟨j, z⟩ := p
  have e : j = k := e
  subst e
  rw [vt_app] at h
  obtain ⟨h1, ⟨l, h2, h3⟩, h4⟩ := h
  have hs : VT L (en x s) [(j, z)] := ⟨⟨l, h2, h3⟩, trivial⟩
  exact ⟨s, en x s, r, z, l, rfl, rfl, h2, h3, h1, h4, vt_cr h1, vt_cr hs⟩
theorem jn_ends {l : L3} {u z u' z' : Int} (h : jn l u z) (h' : jn l u' z') : (u = u' ∧ z = z') ∨ (u = z' ∧ z = u') := by
  rcases h with ⟨rfl, rfl⟩ | ⟨rfl, rfl⟩ <;> rcases h' with ⟨rfl, rfl⟩ | ⟨rfl, rfl⟩ <;> simp
/-- two trails that use a link are connected -/
theorem vt_meet {L : List L3} {x v : Int} {t t' : List (Nat × Int)} (h : VT L x t) (h' : VT L v t') {k : Nat} (hk : k ∈ ix t) (hk' : k ∈ ix t') : CR L x v := by
  obtain ⟨s, u, r, z, l, rfl, _, a1, a2, _, _, a5, a6⟩ := vt_touch h hk
  obtain ⟨s', u', r', z', l', rfl, _, b1, b2, _, _, b5, b6⟩ := vt_touch h' hk'
  rw [a1] at b1
  cases b1
  rcases jn_ends a2 b2 with ⟨rfl, rfl⟩ | ⟨rfl, rfl⟩
  · exact cr_trans L a5 (cr_symm L b5)
  · exact cr_trans L a5 (cr_trans L (cr_symm L b6) (cr_symm L b5))
/-- a path is that of a trail -/
theorem pr_trail : ∀ {L : List L3} {x y : Int} {p : List L3}, PR L x y = some p → ∃ t, VT L x t ∧ (ix t).Nodup ∧ en x t = y ∧ lk L x t = p := by
  intro L
  induction L with
  | nil =>
    intro x y p h
    unfold PR at h
    split at h
    · cases h; exact ⟨[], trivial, List.nodup_nil, by assumption, rfl⟩
    · cases h
  | cons m L ih =>
    intro x y p h
    have low : ∀ {x : Int} {t : List (Nat × Int)}, VT L x t → L.length ∉ ix t := fun h k => by have := ix_lt h _ k; omega
    have glue : ∀ {u v : Int} {q r : List L3}, PR L x y = none → PR L x u = some q → PR L v y = some r → jn m u v → ∃ t, VT (m :: L) x t ∧ (ix t).Nodup ∧ en x t = y ∧ lk (m :: L) x t = q ++ ⟨u, v, m.y⟩ :: r := by
      intro u v q r e0 e1 e2 hj
      obtain ⟨s, a1, a2, a3, a4⟩ := ih e1
      obtain ⟨s', b1, b2, b3, b4⟩ := ih e2
      refine ⟨s ++ (L.length, v) :: s', ?_, ?_, ?_, ?_⟩
      · rw [vt_app]
        exact ⟨(vt_old (low a1)).2 a1, ⟨m, nth_new L m, by rw [a3]; exact hj⟩, (vt_old (low b1)).2 b1⟩
      · rw [ix_app]
        show (ix s ++ L.length :: ix s').Nodup
        rw [List.nodup_append, List.nodup_cons]
        refine ⟨a2, ⟨low b1, b2⟩, fun i hi j hj e => ?_⟩
        subst e
        have := ix_lt a1 i hi
        rcases List.mem_cons.1 hj with e | e
        · omega
        · have c := cr_trans L (vt_meet a1 b1 hi e) (vt_cr b1)
          rw [b3] at c
          obtain ⟨_, c⟩ := (cr_iff L x y).1 c
          rw [e0] at c; cases c
      · rw [en_app]; exact b3
      · rw [lk_app, a3, lk_old (low a1), a4]
        show _ ++ (⟨u, v, whyAt (m :: L) L.length⟩ : L3) :: lk (m :: L) v s' = _
        rw [lk_old (low b1), b4]; unfold whyAt; rw [nth_new]
    unfold PR at h
    split at h
    · rename_i q e0
      cases h
      obtain ⟨t, h1, h2, h3, h4⟩ := ih e0
      exact ⟨t, (vt_old (low h1)).2 h1, h2, h3, by rw [lk_old (low h1), h4]⟩
    · rename_i e0
      split at h
      · rename_i q r e1 e2
        cases h
        exact glue e0 e1 e2 (.inl ⟨rfl, rfl⟩)
      · split at h
        · rename_i q r e1 e2
          cases h
          exact glue e0 e1 e2 (.inr ⟨rfl, rfl⟩)
        · cases h
theorem wf_tail {L : List L3} {m : L3} (h : WFR (m :: L)) : WFR L := h.1
/-- a trail gives the path -/
theorem tr_path {L : List L3} {x : Int} {t : List (Nat × Int)} (hw : WFR L) (h : VT L x t) (hn : (ix t).Nodup) : PR L x (en x t) = some (lk L x t) := by
  obtain ⟨p, hp⟩ := (cr_iff L x (en x t)).1 (vt_cr h)
  obtain ⟨t', a, b, c, d⟩ := pr_trail hp
  have := vt_uniq hw h a hn b c.symm
  subst this
  rw [hp, d]
/-- a trail that comes back is empty -/
theorem vt_closed {L : List L3} {x : Int} {t : List (Nat × Int)} (hw : WFR L) (h : VT L x t) (hn : (ix t).Nodup) (he : en x t = x) : t = [] :=
  vt_uniq hw h trivial hn List.nodup_nil he
theorem pr_self {L : List L3} (hw : WFR L) (x : Int) : PR L x x = some [] := tr_path (t := []) hw trivial List.nodup_nil
/-! the way back -/
def rv : Int → List (Nat × Int) → List (Nat × Int)
  | x, [] => []
  | x, (k, z) :: t => rv z t ++ [(k, x)]
theorem jn_symm {l : L3} {x z : Int} (h : jn l x z) : jn l z x := by
  rcases h with ⟨a, b⟩ | ⟨a, b⟩
  · exact .inr ⟨b, a⟩
  · exact .inl ⟨b, a⟩
theorem en_rv : ∀ (x : Int) (t : List (Nat × Int)), en (en x t) (rv x t) = x
  | x, [] => rfl
  | x, (k, z) :: t => by
    show en (en z t) (rv z t ++ [(k, x)]) = x
    rw [en_app]; rfl
theorem vt_rv {L : List L3} : ∀ {x : Int} {t : List (Nat × Int)}, VT L x t → VT L (en x t) (rv x t)
  | x, [], h => trivial
  | x, (k, z) :: t, h => by
    show VT L (en z t) (rv z t ++ [(k, x)])
    rw [vt_app]
    obtain ⟨⟨l, h1, h2⟩, h3⟩ := h
    refine ⟨vt_rv h3, ⟨l, h1, ?_⟩, trivial⟩
    rw [en_rv]; exact jn_symm h2
theorem ix_rv : ∀ (x : Int) (t : List (Nat × Int)), ix (rv x t) = (ix t).reverse
  | x, [] => rfl
  | x, (k, z) :: t => by
    show ix (rv z t ++ [(k, x)]) = (k :: ix t).reverse
    rw [ix_app, ix_rv z t, List.reverse_cons]; rfl
theorem lk_rv (L : List L3) : ∀ (x : Int) (t : List (Nat × Int)), lk L (en x t) (rv x t) = (lk L x t).reverse.map turnL
  | x, [] => rfl
  | x, (k, z) :: t => by
    show lk L (en z t) (rv z t ++ [(k, x)]) = ((⟨x, z, whyAt L k⟩ : L3) :: lk L z t).reverse.map turnL
    rw [lk_app, lk_rv L z t, List.reverse_cons, List.map_append, en_rv]; rfl
theorem pr_back {L : List L3} (hw : WFR L) {x y : Int} {p : List L3} (h : PR L x y = some p) : PR L y x = some (p.reverse.map turnL) := by
  obtain ⟨t, a, b, c, d⟩ := pr_trail h
  have h1 := tr_path hw (vt_rv a) (by rw [ix_rv]; exact (List.reverse_perm _).nodup_iff.2 b)
  rw [en_rv, lk_rv, c, d] at h1
  exact h1
/-! positions from the oldest on -/
theorem nth_rev (M : List L3) (k : Nat) : nth M.reverse k = M[k]? := by
  have key : ∀ (N : List L3), nth N k = N.reverse[k]? := by
    intro N
    induction N with
    | nil => simp [nth]
    | cons m N ih =>
      by_cases e : k = N.length
      · subst e; rw [nth_new]; simp
      · rw [nth_old e, ih]
        by_cases h : k < N.length
        · rw [List.reverse_cons, List.getElem?_append_left (by simpa using h)]
        · rw [List.getElem?_eq_none (by simp; omega), List.getElem?_eq_none (by simp; omega)]
  rw [key, List.reverse_reverse]
end Go.Proofs.Ytpnjmkmobdaefaa
