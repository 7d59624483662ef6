/- The numbers of the subterms, kept in a map. -/
import Derived.Test.YtmejiiebeknbjaaDoorH
namespace Go.Proofs.YtmejiiebeknbjaaDoor
open Go.RowKit Go.Maps
set_option linter.unusedVariables false
set_option linter.unusedSimpArgs false
noncomputable def shp (S : List T) : T → Value
  | .mk op wd vl nm ts => shapeV op wd vl nm ⟨(txt (opn S ts)).toArray⟩
theorem shp_app {S : List T} {t : T} (h : ∀ u ∈ t.ts, u ∈ S) (l : List T) : shp (S ++ l) t = shp S t := by
  cases t with
  | mk op wd vl nm ts => unfold shp; simp only [opn_app (ts := ts) h]
theorem shp_inj {S : List T} {a b : T} (ha : ∀ u ∈ a.ts, u ∈ S) (hb : ∀ u ∈ b.ts, u ∈ S) (h : shp S a = shp S b) : a = b := by
  cases a with
  | mk op wd vl nm ts =>
    cases b with
    | mk op' wd' vl' nm' us =>
      unfold shp shapeV at h
      simp only [Value.agg.injEq, Array.mk.injEq, List.cons.injEq, Value.int.injEq, Value.string.injEq, true_and, and_true] at h
      obtain ⟨h1, h2, h3, h4, h5⟩ := h
      have h6 : (txt (opn S ts)).toArray = (txt (opn S us)).toArray := by injection h5
      have h7 : txt (opn S ts) = txt (opn S us) := by simpa using h6
      have h8 : ts = us := opn_inj ha hb (txt_inj h7)
      rw [h1, h2, Int.ofNat_inj.1 h3, h4, h8]
def OkK (S : List T) (t : T) : Prop := keyOf Tryd.prog 53 (shp S t) = some (kl (shp S t))
theorem kl_inj {S : List T} {a b : T} (ha : ∀ u ∈ a.ts, u ∈ S) (hb : ∀ u ∈ b.ts, u ∈ S) (oa : OkK S a) (ob : OkK S b) (h : kl (shp S a) = kl (shp S b)) : a = b := by
  unfold OkK at oa ob
  rw [← h] at ob
  exact shp_inj ha hb (law53.inj oa ob)
theorem in_opn (S : List T) (ts : List T) (h : S.length ≤ 1000) (hin : ∀ u ∈ ts, u ∈ S) : ∀ z ∈ opn S ts, In64 z := fun z hz => by
  unfold opn at hz
  obtain ⟨u, hu, rfl⟩ := List.mem_map.1 hz
  have := pos_lt (hin u hu)
  exact ⟨by omega, by omega⟩
theorem okK {S : List T} {op wd : Int} {vl : Nat} {nm : ByteArray} {ts : List T} (hw : Wf op wd vl nm) (hS : S.length ≤ 1000) (hin : ∀ u ∈ ts, u ∈ S) (hl : ts.length ≤ 1000) : OkK S (.mk op wd vl nm ts) := by
  unfold OkK shp
  refine key53 hw ?_
  have h1 := txt_b (opn S ts) (in_opn S ts hS hin)
  have h2 : (opn S ts).length = ts.length := by simp [opn]
  show (txt (opn S ts)).toArray.size ≤ maxLen
  simp [maxLen]; omega
/-- the map holds the numbers of S -/
structure MD (D : DataW Unit) (S : List T) : Prop where
  tidy : Tidy D
  size : Maps.size D = S.length
  ok : ∀ u ∈ S, OkK S u
  has : ∀ l, Maps.has D l = true ↔ ∃ u ∈ S, l = kl (shp S u)
  num : ∀ u ∈ S, D.atKey (kl (shp S u)) (.lit (.int .i64 0)) = .lit (.int .i64 (pos S u))
theorem md_nil : MD (.map []) [] := ⟨tidy_empty, rfl, fun u h => absurd h (by simp), fun l => by simp [Maps.has], fun u h => absurd h (by simp)⟩
theorem MD.seen {D : DataW Unit} {S : List T} (h : MD D S) (hc : Closed S) {t : T} (ht : ∀ u ∈ t.ts, u ∈ S) (ok : OkK S t) : (t ∈ S → Maps.has D (kl (shp S t)) = true) ∧ (t ∉ S → Maps.has D (kl (shp S t)) = false) := by
  refine ⟨fun hm => (h.has _).2 ⟨t, hm, rfl⟩, fun hm => ?_⟩
  cases hh : Maps.has D (kl (shp S t)) with
  | false => rfl
  | true =>
    obtain ⟨u, hu, he⟩ := (h.has _).1 hh
    have := kl_inj ht (hc u hu) ok (h.ok u hu) he
    subst this
    exact absurd hu hm
theorem MD.put {D : DataW Unit} {S : List T} (h : MD D S) (hc : Closed S) {t : T} (ht : ∀ u ∈ t.ts, u ∈ S) (ok : OkK S t) (hn : t ∉ S) : MD (D.put (kl (shp S t)) (.lit (.int .i64 (S.length : Nat)))) (S ++ [t]) := by
  have hk : WideAt.IsKeyLit (kl (shp S t)) := law53.key ok
  have hin : ∀ u ∈ S ++ [t], ∀ x ∈ u.ts, x ∈ S := fun u hu => by
    rcases List.mem_append.1 hu with hu | hu
    · exact hc u hu
    · simp only [List.mem_singleton] at hu; subst hu; exact ht
  have hsh : ∀ u ∈ S ++ [t], shp (S ++ [t]) u = shp S u := fun u hu => shp_app (hin u hu) _
  have hok : ∀ u ∈ S ++ [t], OkK S u := fun u hu => by
    rcases List.mem_append.1 hu with hu | hu
    · exact h.ok u hu
    · simp only [List.mem_singleton] at hu; subst hu; exact ok
  have hf := (h.seen hc ht ok).2 hn
  have hne : ∀ u ∈ S, kl (shp S u) ≠ kl (shp S t) := fun u hu e => hn (by rw [← kl_inj (hc u hu) ht (h.ok u hu) ok e]; exact hu)
  refine ⟨h.tidy.put hk _, ?_, ?_, ?_, ?_⟩
  · rw [size_put h.tidy, hf, h.size]; simp
  · intro u hu; unfold OkK; rw [hsh u hu]; exact hok u hu
  · intro l
    by_cases he : l = kl (shp S t)
    · subst he
      rw [has_put_same h.tidy.isMap hk]
      exact ⟨fun _ => ⟨t, by simp, by rw [hsh t (by simp)]⟩, fun _ => rfl⟩
    · rw [has_put_other he, h.has]
      constructor
      · rintro ⟨u, hu, e⟩; exact ⟨u, List.mem_append_left _ hu, by rw [hsh u (List.mem_append_left _ hu)]; exact e⟩
      · rintro ⟨u, hu, e⟩
        rw [hsh u hu] at e
        rcases List.mem_append.1 hu with hu | hu
        · exact ⟨u, hu, e⟩
        · simp only [List.mem_singleton] at hu; subst hu; exact absurd e he
  · intro u hu
    rw [hsh u hu]
    rcases List.mem_append.1 hu with hu | hu
    · rw [atKey_put_other (hne u hu), h.num u hu, pos_app hu]
    · simp only [List.mem_singleton] at hu
      subst hu
      rw [atKey_put_same h.tidy.isMap hk, pos_new hn]
end Go.Proofs.YtmejiiebeknbjaaDoor
