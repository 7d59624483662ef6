/- Sets of numbers as sorted lists; asSet and the closures of Union. -/
import Derived.Test.YtjmmaaphadeokaaYM
import Derived.OneCell
import Derived.Laws.AppendOwnNone
import Derived.BigQuiet
import Derived.Sort.OwnSortedInts
import Derived.Lib.SmallJoins
namespace Go.Proofs.Ytjmmaaphadeokaa.Ids
open Go.RowKit Go.Lib Go.Sort
set_option linter.unusedVariables false
set_option linter.unusedSimpArgs false
set_option linter.unnecessarySimpa false
set_option maxRecDepth 100000
abbrev SS (l : List Int) : Prop := l.Pairwise (· < ·)
def ins (x : Int) : List Int → List Int
  | [] => [x]
  | a :: l => if a < x then a :: ins x l else if a = x then a :: l else x :: a :: l
theorem mem_ins (x y : Int) (l : List Int) : y ∈ ins x l ↔ y = x ∨ y ∈ l := by
  induction l with
  | nil => simp [ins]
  | cons a l ih =>
    unfold ins
    split
    · simp only [List.mem_cons, ih]; constructor
      · rintro (h | h | h) <;> simp [h]
      · rintro (h | h | h) <;> simp [h]
    · split
      · rename_i h; subst h; simp
      · simp
theorem ss_ins (x : Int) (l : List Int) (h : SS l) : SS (ins x l) := by
  induction l with
  | nil => simp [ins, SS]
  | cons a l ih =>
    have h1 := List.pairwise_cons.1 h
    unfold ins
    split
    · refine List.pairwise_cons.2 ⟨fun b hb => ?_, ih h1.2⟩
      rcases (mem_ins x b l).1 hb with rfl | hb
      · assumption
      · exact h1.1 b hb
    · split
      · exact h
      · refine List.pairwise_cons.2 ⟨fun b hb => ?_, h⟩
        rcases List.mem_cons.1 hb with rfl | hb
        · omega
        · have := h1.1 b hb; omega
def cnt (l : List Int) (x : Int) : Nat := l.countP (· < x)
theorem cnt_zero (l : List Int) (x : Int) (h : ∀ b ∈ l, x ≤ b) : cnt l x = 0 := by
  unfold cnt; rw [List.countP_eq_zero]; intro b hb; have := h b hb; simp; omega
theorem ins_eq (x : Int) (l : List Int) (h : SS l) : (l[cnt l x]? = some x → ins x l = l) ∧ (¬ l[cnt l x]? = some x → ins x l = l.take (cnt l x) ++ x :: l.drop (cnt l x)) := by
  induction l with
  | nil => simp [ins]
  | cons a l ih =>
    have h1 := List.pairwise_cons.1 h
    have ih := ih h1.2
    by_cases hlt : a < x
    · have hc : cnt (a :: l) x = cnt l x + 1 := by unfold cnt; rw [List.countP_cons]; simp [hlt]
      rw [hc]
      simp only [ins, if_pos hlt, List.getElem?_cons_succ, List.take_succ_cons, List.drop_succ_cons, List.cons_append, List.cons.injEq, true_and]
      exact ih
    · have hc : cnt (a :: l) x = 0 := cnt_zero _ _ (fun b hb => by
        rcases List.mem_cons.1 hb with rfl | hb
        · omega
        · have := h1.1 b hb; omega)
      rw [hc]
      by_cases he : a = x
      · subst he; simp [ins]
      · simp [ins, hlt, he]
def ofL (l : List Int) : List Int := l.foldl (fun o x => ins x o) []
theorem ofL_snoc (l : List Int) (x : Int) : ofL (l ++ [x]) = ins x (ofL l) := by unfold ofL; rw [List.foldl_append]; rfl
theorem fold_mem (l o : List Int) (y : Int) : y ∈ l.foldl (fun o x => ins x o) o ↔ y ∈ l ∨ y ∈ o := by
  induction l generalizing o with
  | nil => simp
  | cons a l ih =>
    rw [List.foldl_cons, ih, mem_ins]; simp only [List.mem_cons]
    constructor
    · rintro (h | h | h) <;> simp [h]
    · rintro ((h | h) | h) <;> simp [h]
theorem mem_ofL (l : List Int) (y : Int) : y ∈ ofL l ↔ y ∈ l := by unfold ofL; rw [fold_mem]; simp
theorem fold_ss (l o : List Int) (h : SS o) : SS (l.foldl (fun o x => ins x o) o) := by
  induction l generalizing o with
  | nil => exact h
  | cons a l ih => exact ih _ (ss_ins a o h)
theorem ss_ofL (l : List Int) : SS (ofL l) := fold_ss l [] List.Pairwise.nil
theorem ss_ext (a b : List Int) (ha : SS a) (hb : SS b) (h : ∀ y, y ∈ a ↔ y ∈ b) : a = b := by
  induction a generalizing b with
  | nil =>
    cases b with
    | nil => rfl
    | cons y b => have := (h y).2 (by simp); simp at this
  | cons x a ih =>
    cases b with
    | nil => have := (h x).1 (by simp); simp at this
    | cons y b =>
      have ha1 := List.pairwise_cons.1 ha
      have hb1 := List.pairwise_cons.1 hb
      have e : x = y := by
        have h1 := (h x).1 (by simp)
        have h2 := (h y).2 (by simp)
        rcases List.mem_cons.1 h1 with h1 | h1
        · exact h1
        · rcases List.mem_cons.1 h2 with h2 | h2
          · exact h2.symm
          · have := hb1.1 x h1; have := ha1.1 y h2; omega
      subst e
      rw [ih b ha1.2 hb1.2 (fun z => ?_)]
      have hz := h z
      simp only [List.mem_cons] at hz
      constructor
      · intro hm
        have hne : z ≠ x := by have := ha1.1 z hm; omega
        rcases hz.1 (Or.inr hm) with h3 | h3
        · exact absurd h3 hne
        · exact h3
      · intro hm
        have hne : z ≠ x := by have := hb1.1 z hm; omega
        rcases hz.2 (Or.inr hm) with h3 | h3
        · exact absurd h3 hne
        · exact h3
theorem ofL_of_ss (l : List Int) (h : SS l) : ofL l = l := ss_ext _ _ (ss_ofL l) h (fun y => mem_ofL l y)
theorem ofL_len (l : List Int) : (ofL l).length ≤ l.length := by
  have hn : (ofL l).Nodup := (ss_ofL l).imp (fun h => by omega)
  have hs : (ofL l) ⊆ l := fun y hy => (mem_ofL l y).1 hy
  exact hn.length_le_of_subset hs
def nums (zs : List Int) : List Value := zs.map (Value.int .i64)
/-- a slice of ints that reads as zs -/
def Rd (w : World) (sv : Value) (zs : List Int) : Prop :=
  (∃ a cap, sv = .slice a 0 cap ∧ zs = []) ∨ ∃ b off cap, sv = .slice (some ⟨b, off, none⟩) zs.length cap ∧ 0 < zs.length ∧ zs.length ≤ cap ∧ b < w.heap.size ∧ ∀ k, k < zs.length → w.cell? ⟨b, off + k, none⟩ = some (.int .i64 (zs.getD k 0))
theorem Rd.below {w w' : World} {sv : Value} {zs : List Int} (h : Rd w sv zs) (hb : Below w.heap.size w w') : Rd w' sv zs := by
  rcases h with h | ⟨b, off, cap, h1, h2, h3, h4, h5⟩
  · exact Or.inl h
  · exact Or.inr ⟨b, off, cap, h1, h2, h3, Nat.lt_of_lt_of_le h4 hb.size, fun k hk => (hb.cell (p := ⟨b, off + k, none⟩) h4).trans (h5 k hk)⟩
def OfPost (w : World) (zs : List Int) (e : Ending) (w' : World) : Prop := ∃ v, e = .returned v ∧ w'.ownsRow w.heap.size 3 1 v zs.length (nums zs) ∧ Below w.heap.size w w'
theorem drewN_add (w : World) (a b : Nat) : (w.drewN a).drewN b = w.drewN (a + b) := by simp [World.drewN, Nat.add_assoc]
def Drawn (w w' : World) : Prop := ∃ q, w' = w.drewN q
theorem Drawn.refl (w : World) : Drawn w w := ⟨0, rfl⟩
def validB (zs : List Int) : Bool := decide (SS zs)
def SSTo (zs : List Int) (k : Nat) : Prop := SS (zs.take k)
theorem ssto_one (zs : List Int) : SSTo zs (0 + 1) := by
  unfold SSTo; cases zs <;> simp [SS]
theorem ssto_snoc {zs : List Int} {m : Nat} (hm : m + 1 < zs.length) (h : SSTo zs (m + 1)) (hlt : zs.getD m 0 < zs.getD (m + 1) 0) : SSTo zs (m + 1 + 1) := by
  unfold SSTo at *
  have e1 := List.take_succ_eq_append_getElem (show m < zs.length by omega)
  rw [List.take_succ_eq_append_getElem hm]
  refine List.pairwise_append.2 ⟨h, by simp, fun a ha b hb => ?_⟩
  simp at hb; subst hb
  rw [e1] at h ha
  have h3 := List.pairwise_append.1 h
  simp [List.getD_eq_getElem?_getD, hm, show m < zs.length by omega] at hlt
  rcases List.mem_append.1 ha with ha | ha
  · have := h3.2.2 a ha zs[m] (by simp); omega
  · simp at ha; subst ha; exact hlt
theorem ssto_no {zs : List Int} {m : Nat} (hm : m + 1 < zs.length) (h : ¬ zs.getD m 0 < zs.getD (m + 1) 0) : validB zs = false := by
  unfold validB; apply decide_eq_false; intro hs
  apply h
  simp [List.getD_eq_getElem?_getD, hm, show m < zs.length by omega]
  exact List.pairwise_iff_getElem.1 hs m (m + 1) _ _ (by omega)
set_option maxHeartbeats 1000000 in
theorem valid_some (b off c : Nat) (zs : List Int) (w : World) (hl : zs.length ≤ 100000) (h0 : 0 < zs.length) (hc : ∀ k, k < zs.length → w.cell? ⟨b, off + k, none⟩ = some (.int .i64 (zs.getD k 0))) :
    Calls Try.prog 103 #[.slice (some ⟨b, off, none⟩) zs.length c] w fun e w' => e = .returned (.bool (validB zs)) ∧ Drawn w w' := by
  go_enter Try.func103, Try.ntmps103
  go_wp2_with fail
  go_loopw [3] (fun i wr => ∃ m q : Nat, m + 1 ≤ zs.length ∧ i = .int .i64 ((m : Int) + 1) ∧ SSTo zs (m + 1) ∧ wr = w.drewN q) (fun i _ => zs.length + 1 - (intOf i).toNat)
  case atStart => exact ⟨0, 0, h0, rfl, ssto_one zs, rfl⟩
  case round =>
    obtain ⟨m, q, hk, rfl, hs, hwr⟩ := hrel
    have hs' := Lib.hid hs
    clear hs
    by_cases hlt : m + 1 < zs.length
    · have h1 : wr.cell? ⟨b, off + m, none⟩ = some (.int .i64 (zs.getD m 0)) := by rw [hwr]; exact hc m (by omega)
      have h2 : wr.cell? ⟨b, off + (m + 1), none⟩ = some (.int .i64 (zs.getD (m + 1) 0)) := by rw [hwr]; exact hc (m + 1) hlt
      have hsn := Lib.hid (@ssto_snoc zs m hlt)
      have hno := Lib.hid (@ssto_no zs m hlt)
      have hwr' := Lib.hid hwr
      clear hwr hc
      generalize zs.getD m 0 = x at h1 hsn hno
      generalize zs.getD (m + 1) 0 = y at h2 hsn hno
      by_cases hxy : x < y
      · go_wp2_with fail
        go_quiet (fail)
        go_wp2_with fail
        go_roundw
        case rel => exact ⟨m + 1, q + nq, by omega, by go_num, hsn.out hs'.out hxy, by rw [hwr'.out, drewN_add]⟩
        case measure => simp [intOf]; omega
      · go_wp2_with fail
        go_quiet (fail)
        go_wp2_with fail
        go_ret
        exact ⟨ret_bool (hno.out hxy).symm, q + nq, by rw [hwr'.out, drewN_add]⟩
    · have hwr' := Lib.hid hwr
      clear hwr
      go_wp2_with fail
      go_ret
      refine ⟨ret_bool ?_, q, hwr'.out⟩
      have hs := hs'.out
      unfold SSTo at hs
      rw [List.take_of_length_le (by omega)] at hs
      unfold validB; symm; exact decide_eq_true hs
set_option maxHeartbeats 1000000 in
theorem valid_zero (a : Option Addr) (c : Nat) (w : World) :
    Calls Try.prog 103 #[.slice a 0 c] w fun e w' => e = .returned (.bool true) ∧ w = w' := by
  go_enter Try.func103, Try.ntmps103
  go_wp2_with fail
  go_loop [3] (fun i => i = .int .i64 1) (fun i => 0)
  case atStart => rfl
  case round =>
    subst hrel
    go_wp2_with fail
    go_ret
    exact ⟨rfl, rfl⟩
theorem valid_any (sv : Value) (zs : List Int) (w : World) (h : Rd w sv zs) (hl : zs.length ≤ 100000) :
    Calls Try.prog 103 #[sv] w fun e w' => e = .returned (.bool (validB zs)) ∧ Drawn w w' := by
  rcases h with ⟨a, cap, rfl, rfl⟩ | ⟨b, off, cap, rfl, h1, _, _, h4⟩
  · exact (valid_zero a cap w).mono fun e w' ⟨e1, e2⟩ => ⟨e1, e2 ▸ Drawn.refl w⟩
  · exact valid_some b off cap zs w hl h1 h4
theorem below_drawn {B : Nat} {w w' w2 : World} (h : Below B w w') (hd : Drawn w' w2) : Below B w w2 := by
  obtain ⟨q, rfl⟩ := hd; exact ⟨h.os, h.tape, h.output, h.size, h.block⟩
theorem below_alloc (w : World) (o : Obj) : Below w.heap.size w (w.alloc o) := (Below.refl _ _).alloc (Nat.le_refl _) o
theorem drawn_below {w w' : World} (hd : Drawn w w') : Below w.heap.size w w' := below_drawn (Below.refl _ _) hd
theorem below_up {a b c : World} (h : Below a.heap.size a b) (k : Below b.heap.size b c) : Below a.heap.size a c := h.trans (k.mono h.size)
/-- a source of append: nil, or cells -/
def Src (w : World) (sx : Value) (ys : List Value) : Prop :=
  (sx = .slice none 0 0 ∧ ys = []) ∨ ∃ ad c, sx = .slice (some ad) ys.length c ∧ ∀ j u, ys[j]? = some u → w.cell? (ad.add j) = some u
theorem wpList_append_src {ops : Array Oper} {rest : List Oper} {o : Oper} {a : Act} {w : World} {Q : Exit → Act → World → Prop} (hgd : o.guard = none) (s x : Operand)
    (ho : o.op = .call { callee := .builtin .append, args := #[s, x], argTypes := #[23, 23] }) (base : Nat) (v : Value) (n : Nat) (xs : List Int) (hs : a.eval s = v) (hown : w.ownsRow base 3 1 v n (nums xs))
    (sx : Value) (ys : List Int) (hx : a.eval x = sx) (hsrc : Src w sx (nums ys)) (hsm : n + ys.length ≤ 100000) (hbase : base ≤ w.heap.size)
    (h : ∀ v' w', w'.ownsRow base 3 1 v' (n + ys.length) (nums (xs ++ ys)) → Below base w w' → wpList Try.prog ops Q rest (a.put o.dst v') w') : wpList Try.prog ops Q (o :: rest) a w := by
  obtain ⟨i0, hi, hz0, hz1, hz2⟩ := info_parts info3
  rcases hsrc with ⟨rfl, hy⟩ | ⟨ad, c, rfl, hc⟩
  · have : ys = [] := by unfold nums at hy; simpa using hy
    subst this
    exact wpList_append_own_none hgd s x 23 ho base 3 i0 1 Try.underlying23 hi v n (nums xs) hs hown hx (h v w (by simpa using hown) (Below.refl _ _))
  · have hl : (nums ys).length = ys.length := by simp [nums]
    refine wpList_append_own w hgd s x 23 ho base 3 i0 (.int .i64 0) 1 8 Try.underlying23 hi hz0 hz1 hz2 rfl (by decide) v n (nums xs) hs hown ad ys.length c (nums ys) (by rw [hx, hl]) (by simp [nums]) hc (fun u hu => by unfold nums at hu; obtain ⟨z, _, rfl⟩ := List.mem_map.1 hu; rfl) (by unfold maxLen; omega) (by omega) hbase ?_
    intro v' w' hown' hgrow _
    exact h v' w' (by unfold nums at *; simpa using hown') ((Below.refl base w).grown hgrow hbase (fun j hj => (World.ownsRow.lt hown j hj).1))
theorem own_weak {w : World} {B B' n : Nat} {v : Value} {xs : List Value} (h : w.ownsRow B' 3 1 v n xs) (hb : B ≤ B') : w.ownsRow B 3 1 v n xs :=
  ⟨h.1, h.2.imp id fun ⟨g, cap, cur, a1, a2, a3⟩ => ⟨g, cap, cur, a1, Nat.le_trans hb a2, a3⟩⟩
theorem src_one (w : World) (x : Int) : Src (w.alloc (.cells #[.int .i64 x] 3)) (.slice (some ⟨w.heap.size, 0, none⟩) 1 1) (nums [x]) :=
  Or.inr ⟨⟨w.heap.size, 0, none⟩, 1, rfl, fun j u hj => by
    match j, hj with
    | 0, hj => simp [nums] at hj; subst hj; simp [Addr.add]⟩
theorem ofL_valid {zs : List Int} (h : validB zs = true) : ofL zs = zs := ss_ext _ _ (ss_ofL _) (of_decide_eq_true h) (fun y => mem_ofL zs y)
/-- a slice of another's that reads as the set of a list -/
def AsPost (w : World) (zs : List Int) (e : Ending) (w' : World) : Prop := ∃ v, e = .returned v ∧ Rd w' v (ofL zs) ∧ Below w.heap.size w w'
set_option maxHeartbeats 1000000 in
theorem as_any (sv : Value) (zs : List Int) (w : World) (h : Rd w sv zs) (hb : validB zs = true) (hl : zs.length ≤ 100000) : Calls Try.prog 99 #[sv] w (AsPost w zs) := by
  have hv := valid_any sv zs w h hl
  have he := Lib.hid (ofL_valid hb)
  rw [hb] at hv
  have hv' := Lib.hid hv
  have h' := Lib.hid h
  clear hv h hb
  go_enter Try.func99, Try.ntmps99
  go_wp2_with (first
    | (go_at_call 103; refine hv'.out.mono ?_; rintro e w1 ⟨rfl, hd⟩; have hb1 := Lib.hid (drawn_below hd); clear hd))
  go_ret
  exact ⟨_, rfl, by rw [he.out]; exact h'.out.below hb1.out, hb1.out⟩
theorem keep_union (a b : Bool) (w : World) : Calls Try.prog 56 #[.bool a, .bool b] w fun e w' => e = .returned (.bool (a || b)) ∧ w = w' := by
  go_enter Try.func56, Try.ntmps56
  cases a <;> cases b <;> (go_wp2_with fail; go_ret; exact ⟨rfl, rfl⟩)
/-- the chosen numbers so far, and what chooses -/
structure CH (w : World) (B pc kb : Nat) (kv v : Value) (out : List Int) : Prop where
  blk : w.heap[pc]? = some (.cells #[v] 23 (0, 0))
  keep : w.heap[kb]? = some (.cells #[kv] 84 (0, 0))
  row : w.ownsRow B 3 1 v out.length (nums out)
  pcB : pc < B
  kbB : kb < B
  size : B ≤ w.heap.size
structure FrC (B pc : Nat) (w w' : World) : Prop where
  os : w'.os = w.os
  tape : w'.tape = w.tape
  output : w'.output = w.output
  size : w.heap.size ≤ w'.heap.size
  block : ∀ k, k < B → k ≠ pc → w'.heap[k]? = w.heap[k]?
theorem FrC.refl (B pc : Nat) (w : World) : FrC B pc w w := ⟨rfl, rfl, rfl, Nat.le_refl _, fun _ _ _ => rfl⟩
theorem FrC.trans {B pc : Nat} {a b c : World} (h : FrC B pc a b) (k : FrC B pc b c) : FrC B pc a c :=
  ⟨k.os.trans h.os, k.tape.trans h.tape, k.output.trans h.output, Nat.le_trans h.size k.size, fun j h1 h2 => (k.block j h1 h2).trans (h.block j h1 h2)⟩
theorem CH.ne {w : World} {B pc kb : Nat} {kv v : Value} {out : List Int} (h : CH w B pc kb kv v out) : kb ≠ pc := by
  intro e; have := h.keep; rw [e, h.blk] at this; simp at this
theorem CH.push {w w' : World} {B pc kb : Nat} {kv v v' : Value} {out : List Int} {x : Int} (h : CH w B pc kb kv v out) (hb : Below B w w') (hr : w'.ownsRow B 3 1 v' (out.length + 1) (nums (out ++ [x]))) :
    CH (w'.setCell ⟨pc, 0, none⟩ v') B pc kb kv v' (out ++ [x]) ∧ FrC B pc w (w'.setCell ⟨pc, 0, none⟩ v') := by
  have e1 : w'.heap[pc]? = some (.cells #[v] 23 (0, 0)) := (hb.block pc h.pcB).trans h.blk
  have e2 := one_setCell (u := v') e1
  have hne := h.ne
  have e3 : ∀ k, k ≠ pc → (w'.setCell ⟨pc, 0, none⟩ v').heap[k]? = w'.heap[k]? := fun k hk => heap_setCell_other w' ⟨pc, 0, none⟩ k v' hk
  refine ⟨⟨e2, (e3 kb hne).trans ((hb.block kb h.kbB).trans h.keep), ?_, h.pcB, h.kbB, ?_⟩, ?_⟩
  · have := ownsRow_setCell_other hr (a := ⟨pc, 0, none⟩) (fun e => by have := (World.ownsRow.lt hr pc e).1; have := h.pcB; omega) v'
    simpa using this
  · have : (w'.setCell ⟨pc, 0, none⟩ v').heap.size = w'.heap.size := by simp
    rw [this]; exact Nat.le_trans h.size hb.size
  · exact ⟨hb.os, hb.tape, hb.output, by simpa using hb.size, fun k h1 h2 => (e3 k h2).trans (hb.block k h1)⟩
def VPost (w : World) (B pc kb : Nat) (kv : Value) (out : List Int) (w' : World) : Prop := ∃ v', CH w' B pc kb kv v' out ∧ FrC B pc w w'
set_option maxHeartbeats 1000000 in
theorem visit_45 (B pc kb : Nat) (v : Value) (out : List Int) (x : Int) (a b : Bool) (w : World) (h : CH w B pc kb (.func (.func 56) #[] #[]) v out) (hs : out.length ≤ 2000) :
    Calls Try.prog 85 #[.int .i64 x, .bool a, .bool b, .pointer (some ⟨kb, 0, none⟩), .pointer (some ⟨pc, 0, none⟩)] w fun e w' => e = .returned (.bool true) ∧ VPost w B pc kb (.func (.func 56) #[] #[]) (if (a || b) = true then out ++ [x] else out) w' := by
  have c1 := cell_of_one h.blk
  have c2 := cell_of_one h.keep
  have f1 := free_of_one h.blk
  have hk := Lib.hid (keep_union a b w)
  have hsz := h.size
  have hpc := h.pcB
  have h' := Lib.hid h
  clear h
  cases hd : (a || b)
  · rw [hd] at hk
    go_enter Try.func85, Try.ntmps85
    go_wp2_with (go_at_call 56; refine hk.out.mono ?_; rintro e w' ⟨rfl, rfl⟩)
    go_ret
    exact ⟨rfl, v, h'.out, FrC.refl _ _ _⟩
  · rw [hd] at hk
    have cx := Lib.hid (show (w.alloc (.cells #[.int .i64 x] 3)).cell? ⟨pc, 0, none⟩ = some v from ((below_alloc w _).cell (p := ⟨pc, 0, none⟩) (lt_of_block h'.out.blk)).trans c1)
    go_enter Try.func85, Try.ntmps85
    go_wp2_with (first
      | (go_at_call 56; refine hk.out.mono ?_; rintro e w' ⟨rfl, rfl⟩)
      | (at_builtin; refine wpList_append_src rfl (.tmp 13) (.tmp 15) rfl B v out.length out (by simp [Act.eval, Act.put]) (h'.out.row.alloc _) _ [x] (by simp [Act.eval, Act.put]) (src_one w x) (by simp; omega) (Nat.le_trans hsz (below_alloc _ _).size) ?_; intro v2 w2 ho2 hb2; have hB2 := Lib.hid ((below_alloc w _).mono hsz |>.trans hb2); have ho2c := (own_cast ho2 (by simp) rfl : w2.ownsRow B 3 1 v2 (out.length + 1) (nums (out ++ [x]))); obtain ⟨g2, cap2, hv2⟩ := Joins.ownsRow_form ho2c (by omega); subst hv2; have ho2' := Lib.hid ho2c; clear ho2c; have hblk := (hB2.out.block pc hpc).trans h'.out.blk; have c3 := cell_of_one hblk; have f3 := free_of_one hblk; clear ho2 hb2 hblk c1 f1 c2))
    go_ret
    exact ⟨rfl, _, (h'.out.push hB2.out ho2'.out).1, (h'.out.push hB2.out ho2'.out).2⟩
end Go.Proofs.Ytjmmaaphadeokaa.Ids
