/- The laws of sets, as lists; the calls, in every world that holds the lists. -/
import Derived.Test.YtkicoaphchpngaaAN
namespace Go.Proofs.Ytkicoaphchpngaa
open Go.RowKit Go.Lib Go.Sort
set_option linter.unusedVariables false
set_option linter.unusedSimpArgs false
def UU (l m : List Int) : List Int := chL (fun a b => a || b) (ofL l) (ofL m)
def MM (l m : List Int) : List Int := chL (fun a b => a && b) (ofL l) (ofL m)
def NN (l m : List Int) : List Int := chL (fun a b => a && !b) (ofL l) (ofL m)
def EQ (l m : List Int) : Bool := emB (chL (fun a b => (a || b) && !(a && b)) (ofL l) (ofL m))
def SB (l m : List Int) : Bool := emB (chL (fun a b => a && !b) (ofL l) (ofL m))
theorem mem_UU (l m : List Int) (y : Int) : y ∈ UU l m ↔ y ∈ l ∨ y ∈ m := by unfold UU; rw [chL_mem _ rfl _ _ (ss_ofL _) (ss_ofL _)]; simp [mem_ofL]
theorem mem_MM (l m : List Int) (y : Int) : y ∈ MM l m ↔ y ∈ l ∧ y ∈ m := by unfold MM; rw [chL_mem _ rfl _ _ (ss_ofL _) (ss_ofL _)]; simp [mem_ofL]
theorem mem_NN (l m : List Int) (y : Int) : y ∈ NN l m ↔ y ∈ l ∧ ¬ y ∈ m := by unfold NN; rw [chL_mem _ rfl _ _ (ss_ofL _) (ss_ofL _)]; simp [mem_ofL]
theorem va_UU (l m : List Int) : validB (UU l m) = true := decide_eq_true (chL_ss _ _ _ (ss_ofL _) (ss_ofL _))
theorem va_MM (l m : List Int) : validB (MM l m) = true := decide_eq_true (chL_ss _ _ _ (ss_ofL _) (ss_ofL _))
theorem va_NN (l m : List Int) : validB (NN l m) = true := decide_eq_true (chL_ss _ _ _ (ss_ofL _) (ss_ofL _))
theorem EQ_iff (l m : List Int) : EQ l m = true ↔ ∀ y, y ∈ l ↔ y ∈ m := by
  unfold EQ; rw [equal_list]; unfold sameB; rw [decide_eq_true_iff]
  constructor
  · intro h y; rw [← mem_ofL l, ← mem_ofL m, h]
  · intro h; exact ss_ext _ _ (ss_ofL _) (ss_ofL _) (fun y => by rw [mem_ofL, mem_ofL]; exact h y)
theorem SB_iff (l m : List Int) : SB l m = true ↔ ∀ y ∈ l, y ∈ m := by
  show emB (NN l m) = true ↔ _
  unfold emB; rw [decide_eq_true_iff, List.eq_nil_iff_forall_not_mem]
  constructor
  · intro h y hy
    exact Classical.byContradiction fun e => h y ((mem_NN _ _ _).2 ⟨hy, e⟩)
  · intro h y hy
    have := (mem_NN _ _ _).1 hy
    exact this.2 (h y this.1)
theorem len_UU (l m : List Int) : (UU l m).length ≤ l.length + m.length := by
  have := ofL_len (l ++ m); rw [← union_list] at this; simpa [UU] using this
theorem len_MM (l m : List Int) : (MM l m).length ≤ l.length := by
  show (chL _ _ _).length ≤ _
  rw [meet_list]; exact Nat.le_trans (pick_len _ _ _) (ofL_len _)
theorem len_NN (l m : List Int) : (NN l m).length ≤ l.length := by
  show (chL _ _ _).length ≤ _
  rw [minus_list]; exact Nat.le_trans (pick_len _ _ _) (ofL_len _)
theorem filter_two (p : Int → Bool) (l : List Int) : (l.filter p).length + (l.filter (fun x => !p x)).length = l.length := by
  induction l with
  | nil => rfl
  | cons a l ih => cases h : p a <;> simp [h] <;> omega
theorem len_sum (l m : List Int) : (UU l m).length + (MM l m).length = (ofL l).length + (ofL m).length := by
  have h1 : (UU l m).Perm (ofL l ++ (ofL m).filter (fun x => !memB l x)) := by
    refine (List.perm_ext_iff_of_nodup (ss_nodup (chL_ss _ _ _ (ss_ofL _) (ss_ofL _))) ?_).2 (fun y => ?_)
    · refine List.nodup_append.2 ⟨ss_nodup (ss_ofL _), (ss_nodup (ss_ofL m)).filter _, ?_⟩
      intro a ha b hb e
      subst e
      rw [List.mem_filter] at hb
      rw [mem_ofL] at ha
      simp [memB, ha] at hb
    · show y ∈ UU l m ↔ _
      rw [mem_UU, List.mem_append, List.mem_filter, mem_ofL, mem_ofL]
      by_cases e : y ∈ l <;> simp [memB, e]
  have h2 : (MM l m).Perm ((ofL m).filter (fun x => memB l x)) := by
    refine (List.perm_ext_iff_of_nodup (ss_nodup (chL_ss _ _ _ (ss_ofL _) (ss_ofL _))) ((ss_nodup (ss_ofL m)).filter _)).2 (fun y => ?_)
    show y ∈ MM l m ↔ _
    rw [mem_MM, List.mem_filter, mem_ofL]
    by_cases e : y ∈ l <;> simp [memB, e]
  have h3 : ((ofL m).filter (fun x => memB l x)).length + ((ofL m).filter (fun x => !memB l x)).length = (ofL m).length := filter_two (memB l) (ofL m)
  rw [h1.length_eq, h2.length_eq, List.length_append]
  omega
section
variable (a b c : List Int)
theorem q2 : EQ (UU a b) (UU b a) = true := (EQ_iff _ _).2 (fun y => by simp only [mem_UU]; exact or_comm)
theorem q3 : EQ (MM a b) (MM b a) = true := (EQ_iff _ _).2 (fun y => by simp only [mem_MM]; exact and_comm)
theorem q4 : EQ (MM a (UU b c)) (UU (MM a b) (MM a c)) = true := (EQ_iff _ _).2 (fun y => by simp only [mem_MM, mem_UU]; by_cases h1 : y ∈ a <;> by_cases h2 : y ∈ b <;> by_cases h3 : y ∈ c <;> simp [h1, h2, h3])
theorem q5 : EQ (UU a (MM b c)) (MM (UU a b) (UU a c)) = true := (EQ_iff _ _).2 (fun y => by simp only [mem_MM, mem_UU]; by_cases h1 : y ∈ a <;> by_cases h2 : y ∈ b <;> by_cases h3 : y ∈ c <;> simp [h1, h2, h3])
theorem q6 : EQ (NN a (UU b c)) (NN (NN a b) c) = true := (EQ_iff _ _).2 (fun y => by simp only [mem_NN, mem_UU]; by_cases h1 : y ∈ a <;> by_cases h2 : y ∈ b <;> by_cases h3 : y ∈ c <;> simp [h1, h2, h3])
theorem q7 : EQ (UU (NN a b) (MM a b)) a = true := (EQ_iff _ _).2 (fun y => by simp only [mem_NN, mem_MM, mem_UU]; by_cases h1 : y ∈ a <;> by_cases h2 : y ∈ b <;> simp [h1, h2])
theorem q8 : SB a (UU a b) = true := (SB_iff _ _).2 (fun y h => (mem_UU _ _ _).2 (.inl h))
theorem q9 : SB (MM a b) a = true := (SB_iff _ _).2 (fun y h => ((mem_MM _ _ _).1 h).1)
theorem q10 : EQ a b = (SB a b && SB b a) := by
  rw [Bool.eq_iff_iff, Bool.and_eq_true, EQ_iff, SB_iff, SB_iff]
  exact ⟨fun h => ⟨fun y => (h y).1, fun y => (h y).2⟩, fun h y => ⟨h.1 y, h.2 y⟩⟩
end
/-- the world holds these lists -/
def HS (w : World) (L : List (Value × List Int)) (wc : World) : Prop := BK w wc ∧ ∀ p ∈ L, Rd wc p.1 p.2
section
variable {w : World} {L : List (Value × List Int)} {l m : List Int} {sa sb : Value}
theorem HS.go {wc w' : World} (h : HS w L wc) (hb : Below wc.heap.size wc w') : HS w L w' := ⟨below_up h.1 hb, fun p hp => (h.2 p hp).below hb⟩
theorem hs_of {wc : World} (h : HS w L wc) (e : Ending) (w' : World) (hp : OfPost wc l e w') : ∃ p c, e = .returned (.slice p l.length c) ∧ HS w ((.slice p l.length c, l) :: L) w' := by
  obtain ⟨v, rfl, ho, hb⟩ := hp
  obtain ⟨p, c, rfl⟩ := own_shape ho
  refine ⟨p, c, rfl, below_up h.1 hb, fun x hx => ?_⟩
  rcases List.mem_cons.1 hx with rfl | hx
  · exact Rd.own ho
  · exact (h.2 x hx).below hb
theorem hs_b {wc : World} {r : Bool} (h : HS w L wc) (e : Ending) (w' : World) (hp : BPost wc r e w') : e = .returned (.bool r) ∧ HS w L w' := ⟨hp.1, h.go hp.2⟩
theorem c24 {wc : World} (h : HS w L wc) (h1 : (sa, l) ∈ L) (h2 : (sb, m) ∈ L) (hl : l.length + m.length ≤ 2000) : Calls Try.prog 24 #[sa, sb] wc fun e w' => ∃ p c, e = .returned (.slice p (UU l m).length c) ∧ HS w ((.slice p (UU l m).length c, UU l m) :: L) w' :=
  (union_any sa sb l m wc (h.2 _ h1) (h.2 _ h2) hl).mono (hs_of h)
theorem c26 {wc : World} (h : HS w L wc) (h1 : (sa, l) ∈ L) (h2 : (sb, m) ∈ L) (hl : l.length + m.length ≤ 2000) : Calls Try.prog 26 #[sa, sb] wc fun e w' => ∃ p c, e = .returned (.slice p (MM l m).length c) ∧ HS w ((.slice p (MM l m).length c, MM l m) :: L) w' :=
  (meet_any sa sb l m wc (h.2 _ h1) (h.2 _ h2) hl).mono (hs_of h)
theorem c28 {wc : World} (h : HS w L wc) (h1 : (sa, l) ∈ L) (h2 : (sb, m) ∈ L) (hl : l.length + m.length ≤ 2000) : Calls Try.prog 28 #[sa, sb] wc fun e w' => ∃ p c, e = .returned (.slice p (NN l m).length c) ∧ HS w ((.slice p (NN l m).length c, NN l m) :: L) w' :=
  (minus_any sa sb l m wc (h.2 _ h1) (h.2 _ h2) hl).mono (hs_of h)
theorem c12 {wc : World} (h : HS w L wc) (h1 : (sa, l) ∈ L) (hl : l.length ≤ 2000) : Calls Try.prog 12 #[sa] wc fun e w' => ∃ p c, e = .returned (.slice p (ofL l).length c) ∧ HS w ((.slice p (ofL l).length c, ofL l) :: L) w' :=
  (of_any sa l wc (h.2 _ h1) (by omega)).mono (hs_of h)
theorem c32 {wc : World} {r : Bool} (h : HS w L wc) (h1 : (sa, l) ∈ L) (h2 : (sb, m) ∈ L) (hl : l.length + m.length ≤ 2000) (hr : EQ l m = r) : Calls Try.prog 32 #[sa, sb] wc fun e w' => e = .returned (.bool r) ∧ HS w L w' :=
  hr ▸ (equal_any sa sb l m wc (h.2 _ h1) (h.2 _ h2) hl).mono (hs_b h)
theorem c30 {wc : World} {r : Bool} (h : HS w L wc) (h1 : (sa, l) ∈ L) (h2 : (sb, m) ∈ L) (hl : l.length + m.length ≤ 2000) (hr : SB l m = r) : Calls Try.prog 30 #[sa, sb] wc fun e w' => e = .returned (.bool r) ∧ HS w L w' :=
  hr ▸ (subset_any sa sb l m wc (h.2 _ h1) (h.2 _ h2) hl).mono (hs_b h)
theorem c14 {wc : World} (h : HS w L wc) (h1 : (sa, l) ∈ L) (hl : l.length ≤ 2000) (hr : validB l = true) : Calls Try.prog 14 #[sa] wc fun e w' => e = .returned (.bool true) ∧ HS w L w' := by
  refine (valid_any sa l wc (h.2 _ h1) (by omega)).mono ?_
  rintro e w' ⟨rfl, hd⟩
  rw [hr]
  exact ⟨rfl, h.go (drawn_below hd)⟩
theorem c10 {wc : World} (h : HS w L wc) : Calls Try.prog 10 #[] wc fun e w' => e = .returned (.bool true) ∧ HS w L w' :=
  (lives_any wc).mono (fun e w' hp => ⟨hp.1, h.go hp.2⟩)
end
end Go.Proofs.Ytkicoaphchpngaa
