/- The reference's Of. -/
import Derived.Test.YtnlpiaejfmdckaaDoorTC
import Derived.Test.YtnlpiaejfmdckaaDoorSK
import Derived.Test.YtnlpiaejfmdckaaDoorShelfB
import Derived.Sort.OwnSortedInts
import Derived.Laws.AppendOwnNone
import Derived.Lib.SmallJoins
import Derived.Deep.QuietTactic
import Derived.Deep.RegionLaw
import Derived.Deep.RegionLawGrows
namespace Go.Proofs.YtnlpiaejfmdckaaDoor.Ids
open Go.RowKit Go.Lib Go.Sort
set_option linter.unusedVariables false
set_option linter.unusedSimpArgs false
def nums (zs : List Int) : List Value := zs.map (Value.int .i64)
def Drawn (w w2 : World) : Prop := ∃ q, w2 = w.drewN q
theorem row_cap {w : World} {B g n cap : Nat} {xs : List Value} (h : w.ownsRow B 3 1 (.slice (some ⟨g, 0, none⟩) n cap) n xs) : n ≤ cap := by
  rcases h.2 with ⟨h', _⟩ | ⟨g', cap', cur, h', _, _, h1, _⟩
  · simp at h'
  · simp only [Value.slice.injEq, Option.some.injEq, Addr.mk.injEq, and_true, true_and] at h'
    obtain ⟨rfl, rfl⟩ := h'
    exact h1
theorem own_take {w : World} {B g n cap : Nat} {xs : List Value} (h : w.ownsRow B 3 1 (.slice (some ⟨g, 0, none⟩) n cap) n xs) (m : Nat) (hm : m ≤ n) : w.ownsRow B 3 1 (.slice (some ⟨g, 0, none⟩) m cap) m (xs.take m) := by
  rcases h.2 with ⟨h', _⟩ | ⟨g', cap', cur, h', hb, hg, h1, h2, h3, h4⟩
  · simp at h'
  · simp only [Value.slice.injEq, Option.some.injEq, Addr.mk.injEq, and_true, true_and] at h'
    obtain ⟨rfl, rfl⟩ := h'
    have hl : xs.length = n := by simpa using h.1
    refine ⟨by simp; omega, .inr ⟨g, cap, cur, rfl, hb, hg, by omega, h2, h3, ?_⟩⟩
    rw [← h4, Nat.mul_one, Nat.mul_one, List.take_take, Nat.min_eq_left hm]
theorem below_drawn {B : Nat} {w w' w2 : World} (h : Below B w w') (hd : Drawn w' w2) : Below B w w2 := by
  obtain ⟨q, rfl⟩ := hd; exact ⟨h.os, h.tape, h.output, h.size, h.block⟩
theorem below_alloc (w : World) (o : Obj) : Below w.heap.size w (w.alloc o) := (Below.refl _ _).alloc (Nat.le_refl _) o
theorem cnt_le (zs : List Int) (x : Int) : cnt zs x ≤ zs.length := List.countP_le_length
theorem own_keep {w w' : World} {B n : Nat} {v : Value} {xs : List Value} (h : w.ownsRow B 3 1 v n xs) (hb : Below w.heap.size w w') : w'.ownsRow B 3 1 v n xs := by
  rcases h.2 with ⟨h1, h2⟩ | ⟨g, cap, cur, h1, h2, h3, h4⟩
  · exact ⟨h.1, .inl ⟨h1, h2⟩⟩
  · have hlt : g < w.heap.size := (Array.getElem?_eq_some_iff.1 h3).1
    exact ⟨h.1, .inr ⟨g, cap, cur, h1, h2, (hb.block g hlt).trans h3, h4⟩⟩
/-- a slice of ints that reads as zs -/
def Rd (w : World) (sv : Value) (zs : List Int) : Prop :=
  (∃ a cap, sv = .slice a 0 cap ∧ zs = []) ∨ ∃ b off cap, sv = .slice (some ⟨b, off, none⟩) zs.length cap ∧ 0 < zs.length ∧ zs.length ≤ cap ∧ b < w.heap.size ∧ ∀ k, k < zs.length → w.cell? ⟨b, off + k, none⟩ = some (.int .i64 (zs.getD k 0))
theorem Rd.own {w : World} {B : Nat} {v : Value} {zs : List Int} (h : w.ownsRow B 3 1 v zs.length (nums zs)) : Rd w v zs := by
  rcases Joins.ownsRow_forms h with ⟨rfl, h0⟩ | ⟨g, cap, rfl⟩
  · exact Or.inl ⟨none, 0, rfl, List.eq_nil_of_length_eq_zero h0⟩
  · by_cases h0 : zs.length = 0
    · obtain rfl := List.eq_nil_of_length_eq_zero h0
      exact Or.inl ⟨_, _, rfl, rfl⟩
    · exact Or.inr ⟨g, 0, cap, rfl, by omega, row_cap h, (World.ownsRow.lt h g rfl).2, fun k hk => by
        rw [Nat.zero_add, World.ownsRow.cellAt h k (by omega)]; simp [nums, hk]⟩
def OfPost (w : World) (zs : List Int) (e : Ending) (w' : World) : Prop := ∃ v, e = .returned v ∧ w'.ownsRow w.heap.size 3 1 v zs.length (nums zs) ∧ Below w.heap.size w w'
theorem putCut {w : World} {B g cap q : Nat} {ss ts : List Int} (hr : w.ownsRow B 3 1 (.slice (some ⟨g, 0, none⟩) ss.length cap) ss.length (nums ss)) (hl : ts.length = ss.length) (os : Array Obj) :
    (grow (putRow (Value.int .i64) (Sort.ahead w q) g 0 ts.toArray) os).ownsRow B 3 1 (.slice (some ⟨g, 0, none⟩) ss.length cap) ss.length (nums ts) ∧ w.grownBy (grow (putRow (Value.int .i64) (Sort.ahead w q) g 0 ts.toArray) os) (some g) := by
  refine ⟨?_, grownBy_sortedI _⟩
  rcases hr.2 with ⟨h', _⟩ | ⟨g', cap', cur, h', hb, hg, h1, h2, h3, h4⟩
  · simp at h'
  · simp only [Value.slice.injEq, Option.some.injEq, Addr.mk.injEq, and_true, true_and] at h'
    obtain ⟨rfl, rfl⟩ := h'
    exact ownsRow_sortedI (n := q) (os := os) (ss := ss) (ts := ts) (cap := cap) hl hb hg h1 h2 (by simpa using h3)
theorem holds_own {w : World} {B g cap : Nat} {ss : List Int} (hr : w.ownsRow B 3 1 (.slice (some ⟨g, 0, none⟩) ss.length cap) ss.length (nums ss)) : Holds (Value.int .i64) w g 0 ss.toArray := by
  rcases hr.2 with ⟨h', _⟩ | ⟨g', cap', cur, h', hb, hg, h1, h2, h3, h4⟩
  · simp at h'
  · simp only [Value.slice.injEq, Option.some.injEq, Addr.mk.injEq, and_true, true_and] at h'
    obtain ⟨rfl, rfl⟩ := h'
    exact holds_of_blockI hg (by simpa [nums] using h4)
theorem cnt_lsN (x : Int) : ∀ (zs : List Int), lsN x zs = cnt zs x
  | [] => rfl
  | z :: zs => by
    rw [lsN_cons, cnt_lsN x zs]
    unfold cnt
    rw [List.countP_cons]
    by_cases h : z < x
    · rw [if_pos h, if_pos (by simpa using h)]; omega
    · rw [if_neg h, if_neg (by simpa using h)]; omega
theorem Rd.rowI {w : World} {sv : Value} {zs : List Int} (h : Rd w sv zs) : ∃ p c, sv = .slice p zs.length c ∧ (zs.length = 0 ∨ RowI (mem 0 w) w p c zs) := by
  rcases h with ⟨a, cap, rfl, rfl⟩ | ⟨b, off, cap, rfl, h1, h2, h3, h4⟩
  · exact ⟨a, cap, rfl, .inl rfl⟩
  · exact ⟨_, cap, rfl, .inr (.inr ⟨b, off, rfl, ⟨Nat.zero_le _, h3⟩, fun k hk => by rw [h4 k hk]; simp [hk], h2⟩)⟩
theorem rindex_zero (a : Option Addr) (c : Nat) (x : Int) (w : World) : Calls Tryd.prog 56 #[.slice a 0 c, .int .i64 x] w fun e w' => e = .returned (.int .i64 0) ∧ w = w' := by
  go_enter Tryd.func56, Tryd.ntmps56
  go_wp2_with fail
  go_loop [5, 6] (fun v i => v = .int .i64 0 ∧ i = .int .i64 0) (fun _ _ => 0)
  case atStart => exact ⟨rfl, rfl⟩
  case round =>
    obtain ⟨rfl, rfl⟩ := hrel
    go_wp2_with fail
    go_ret
    exact ⟨rfl, rfl⟩
theorem rindex_any (sv : Value) (x : Int) (zs : List Int) (w : World) (h : Rd w sv zs) (hl : zs.length ≤ 100000) : Calls Tryd.prog 56 #[sv, .int .i64 x] w fun e w' => e = .returned (.int .i64 (cnt zs x : Int)) ∧ w = w' := by
  obtain ⟨p, c, rfl, h0 | hr⟩ := h.rowI
  · obtain rfl := List.eq_nil_of_length_eq_zero h0
    exact rindex_zero p c x w
  · rw [← cnt_lsN]
    exact index56 zs x hl w p c hr
/-- a source of append: nil, or cells -/
def Src (w : World) (sx : Value) (ys : List Value) : Prop :=
  (sx = .slice none 0 0 ∧ ys = []) ∨ ∃ ad c, sx = .slice (some ad) ys.length c ∧ ∀ j u, ys[j]? = some u → w.cell? (ad.add j) = some u
theorem wpList_append_src {ops : Array Oper} {rest : List Oper} {o : Oper} {a : Act} {w : World} {Q : Exit → Act → World → Prop} (hgd : o.guard = none) (s x : Operand)
    (ho : o.op = .call { callee := .builtin .append, args := #[s, x], argTypes := #[34, 34] }) (base : Nat) (v : Value) (n : Nat) (xs : List Int) (hs : a.eval s = v) (hown : w.ownsRow base 3 1 v n (nums xs))
    (sx : Value) (ys : List Int) (hx : a.eval x = sx) (hsrc : Src w sx (nums ys)) (hsm : n + ys.length ≤ 100000) (hbase : base ≤ w.heap.size)
    (h : ∀ v' w', w'.ownsRow base 3 1 v' (n + ys.length) (nums (xs ++ ys)) → Below base w w' → wpList Tryd.prog ops Q rest (a.put o.dst v') w') : wpList Tryd.prog ops Q (o :: rest) a w := by
  obtain ⟨i0, hi, hz0, hz1, hz2⟩ := info_parts info3
  rcases hsrc with ⟨rfl, hy⟩ | ⟨ad, c, rfl, hc⟩
  · have : ys = [] := by unfold nums at hy; simpa using hy
    subst this
    exact wpList_append_own_none hgd s x 34 ho base 3 i0 1 Tryd.underlying34 hi v n (nums xs) hs hown hx (h v w (by simpa using hown) (Below.refl _ _))
  · have hl : (nums ys).length = ys.length := by simp [nums]
    refine wpList_append_own w hgd s x 34 ho base 3 i0 (.int .i64 0) 1 8 Tryd.underlying34 hi hz0 hz1 hz2 rfl (by decide) v n (nums xs) hs hown ad ys.length c (nums ys) (by rw [hx, hl]) (by simp [nums]) hc (fun u hu => by unfold nums at hu; obtain ⟨z, _, rfl⟩ := List.mem_map.1 hu; rfl) (by unfold maxLen; omega) (by omega) hbase ?_
    intro v' w' hown' hgrow _
    exact h v' w' (by unfold nums at *; simpa using hown') ((Below.refl base w).grown hgrow hbase (fun j hj => (World.ownsRow.lt hown j hj).1))
theorem src_row {w : World} {g cap n : Nat} {B : Nat} {xs : List Int} (hown : w.ownsRow B 3 1 (.slice (some ⟨g, 0, none⟩) n cap) n (nums xs)) (off m c : Nat) (ys : List Int) (hm : ys.length = m) (hy : ∀ j, j < ys.length → off + j < xs.length ∧ ys.getD j 0 = xs.getD (off + j) 0) : Src w (.slice (some ⟨g, off, none⟩) m c) (nums ys) := by
  subst hm
  have hl : xs.length = n := by simpa [nums] using hown.1
  refine Or.inr ⟨⟨g, off, none⟩, c, by simp [nums], fun j u hu => ?_⟩
  have hj : j < ys.length := by
    by_cases hj : j < ys.length
    · exact hj
    · simp [nums] at hu; obtain ⟨z, h1, _⟩ := hu; rw [List.getElem?_eq_none (by omega)] at h1; cases h1
  obtain ⟨h1, h2⟩ := hy j hj
  have hadd : (⟨g, off, none⟩ : Addr).add j = ⟨g, off + j, none⟩ := Go.WideShapes.add_plain _ _ _
  rw [hadd, World.ownsRow.cellAt hown (off + j) (by omega)]
  simp [nums, hj] at hu
  rw [← hu]
  simp [List.getD_eq_getElem?_getD, hj, h1] at h2
  simp [nums, h1, h2]
theorem src_end (w : World) (a : Addr) (c : Nat) : Src w (.slice (some a) 0 c) (nums []) := Or.inr ⟨a, c, rfl, fun j u hu => by simp [nums] at hu⟩
theorem src_below {w w' : World} {B g off n c : Nat} {ys : List Value} (h : Src w (.slice (some ⟨g, off, none⟩) n c) ys) (hb : Below B w w') (hg : g < B) : Src w' (.slice (some ⟨g, off, none⟩) n c) ys := by
  rcases h with ⟨h, _⟩ | ⟨ad, c', h1, h2⟩
  · cases h
  · simp only [Value.slice.injEq, Option.some.injEq] at h1
    obtain ⟨rfl, _, rfl⟩ := h1
    rename_i hn
    exact Or.inr ⟨⟨g, off, none⟩, c, by rw [← hn], fun j u hu => by
      have hadd : (⟨g, off, none⟩ : Addr).add j = ⟨g, off + j, none⟩ := Go.WideShapes.add_plain _ _ _
      have := h2 j u hu
      rw [hadd] at this ⊢
      exact (hb.cell (p := ⟨g, off + j, none⟩) hg).trans this⟩
theorem own_weak {w : World} {B B' n : Nat} {v : Value} {xs : List Value} (h : w.ownsRow B' 3 1 v n xs) (hb : B ≤ B') : w.ownsRow B 3 1 v n xs :=
  ⟨h.1, h.2.imp id fun ⟨g, cap, cur, a1, a2, a3⟩ => ⟨g, cap, cur, a1, Nat.le_trans hb a2, a3⟩⟩
theorem ofL_take (zs : List Int) (k : Nat) (hk : k < zs.length) : ofL (zs.take (k + 1)) = ins (zs.getD k 0) (ofL (zs.take k)) := by
  rw [List.take_succ_eq_append_getElem hk, ofL_snoc]; simp [List.getD_eq_getElem?_getD, hk]
theorem ofL_take_len (zs : List Int) (k : Nat) : (ofL (zs.take k)).length ≤ zs.length := Nat.le_trans (ofL_len _) (by simp; omega)
theorem take_src (os : List Int) (n : Nat) : ∀ j, j < (os.take n).length → 0 + j < os.length ∧ (os.take n).getD j 0 = os.getD (0 + j) 0 := by
  intro j hj
  simp at hj
  refine ⟨by omega, ?_⟩
  have h1 : j < n := by omega
  simp [List.getD_eq_getElem?_getD, List.getElem?_take, h1]
theorem drop_src (os : List Int) (n : Nat) : ∀ j, j < (os.drop n).length → n + j < os.length ∧ (os.drop n).getD j 0 = os.getD (n + j) 0 := by
  intro j hj
  simp at hj
  refine ⟨by omega, ?_⟩
  simp [List.getD_eq_getElem?_getD, List.getElem?_drop]
theorem src_one (w : World) (x : Int) : Src (w.alloc (.cells #[.int .i64 x] 3)) (.slice (some ⟨w.heap.size, 0, none⟩) 1 1) (nums [x]) :=
  Or.inr ⟨⟨w.heap.size, 0, none⟩, 1, rfl, fun j u hj => by
    match j, hj with
    | 0, hj => simp [nums] at hj; subst hj; simp [Addr.add]⟩
theorem own_cast {w : World} {B n m : Nat} {v : Value} {xs ys : List Value} (h : w.ownsRow B 3 1 v n xs) (e1 : n = m) (e2 : xs = ys) : w.ownsRow B 3 1 v m ys := by subst e1 e2; exact h
set_option maxRecDepth 100000 in
set_option maxHeartbeats 4000000 in
theorem rof_some (b off c : Nat) (zs : List Int) (w : World) (hl : zs.length ≤ 10000) (hb0 : b < w.heap.size) (hc : ∀ k, k < zs.length → w.cell? ⟨b, off + k, none⟩ = some (.int .i64 (zs.getD k 0))) :
    Calls Tryd.prog 38 #[.slice (some ⟨b, off, none⟩) zs.length c] w (OfPost w (ofL zs)) := by
  go_enter Tryd.func38, Tryd.ntmps38
  go_wp2_with fail
  go_loopw [3, 4] (fun v i wr => ∃ k : Nat, k ≤ zs.length ∧ i = .int .i64 k ∧ wr.ownsRow w.heap.size 3 1 v (ofL (zs.take k)).length (nums (ofL (zs.take k))) ∧ Below w.heap.size w wr) (fun _ i _ => zs.length - (intOf i).toNat)
  case atStart => exact ⟨0, Nat.zero_le _, rfl, World.ownsRow_nil _ _ _ _, Below.refl _ _⟩
  case round =>
    obtain ⟨k, hk, rfl, hown, hb⟩ := hrel
    by_cases hlt : k < zs.length
    · have hx : wr.cell? ⟨b, off + k, none⟩ = some (.int .i64 (zs.getD k 0)) := (hb.cell (p := ⟨b, off + k, none⟩) hb0).trans (hc k hlt)
      have hstep := ofL_take zs k hlt
      have hss := ss_ofL (zs.take k)
      have hlen := ofL_take_len zs k
      have hie := ins_eq (zs.getD k 0) _ hss
      have hbs := hb.size
      have hbb : b < wr.heap.size := Nat.lt_of_lt_of_le hb0 hbs
      clear hc
      generalize zs.getD k 0 = x at hx hstep hie
      generalize ofL (zs.take k) = os at hown hstep hss hlen hie
      have hix := Lib.hid (rindex_any u3 x os wr (Rd.own hown) (by omega))
      have hcl := cnt_le os x
      generalize cnt os x = at_ at hix hie hcl
      rw [← hstep] at hie
      clear hstep
      have hie' := Lib.hid hie
      have hss' := Lib.hid hss
      clear hie hss
      rcases Joins.ownsRow_forms hown with ⟨hv, h0⟩ | ⟨g, cap, hv⟩
      · obtain rfl : os = [] := List.eq_nil_of_length_eq_zero h0
        obtain rfl : at_ = 0 := by simpa using hcl
        subst hv
        clear hown hcl h0 hlen
        go_wp2_with (go_at_call 56; refine hix.out.mono ?_; rintro e w' ⟨rfl, rfl⟩)
        go_quiet (fail)
        go_wp2_with (first
          | (at_builtin; refine wpList_append_src rfl (.tmp 34) (.tmp 37) rfl wr.heap.size (.slice none 0 0) 0 [] (by simp [Act.eval, Act.put]) (World.ownsRow_nil _ _ _ _) (.slice none 0 0) [] (by simp [Act.eval, Act.put]) (Or.inl ⟨rfl, rfl⟩) (by simp) (Nat.le_refl _) ?_; intro v1 w1 ho1 hb1; have hx1 := (hb1.cell (p := ⟨b, off + k, none⟩) hbb).trans hx; have hs1 := hb1.size)
          | (at_builtin; refine wpList_append_src rfl (.tmp 39) (.tmp 44) rfl wr.heap.size v1 0 [] (by simp [Act.eval, Act.put]) (ho1.alloc _) _ [x] (by simp [Act.eval, Act.put]) (src_one w1 x) (by simp) (Nat.le_trans hs1 (below_alloc _ _).size) ?_; intro v2 w2 ho2 hb2; have hs2 := Nat.le_trans (Nat.le_trans hs1 (below_alloc _ _).size) hb2.size)
          | (at_builtin; refine wpList_append_src rfl (.tmp 46) (.tmp 49) rfl wr.heap.size v2 1 [x] (by simp [Act.eval, Act.put]) ho2 (.slice none 0 0) [] (by simp [Act.eval, Act.put]) (Or.inl ⟨rfl, rfl⟩) (by simp) hs2 ?_; intro v3 w3 ho3 hb3))
        go_roundw
        case rel =>
          have he : ofL (List.take (k + 1) zs) = [x] := by simpa using hie'.out
          refine ⟨k + 1, by omega, by go_num, own_weak (own_cast ho3 (by rw [he]; rfl) (by rw [he]; rfl)) hbs, ?_⟩
          exact ((((below_drawn hb ⟨nq, rfl⟩).trans (hb1.mono hbs)).alloc (Nat.le_trans hbs hs1) _).trans (hb2.mono hbs)).trans (hb3.mono hbs)
        case measure => simp [intOf]; omega
      · subst hv
        have hrc := row_cap hown
        have hgl := World.ownsRow.lt hown g rfl
        have hown' := Lib.hid hown
        by_cases hA : at_ < os.length
        · have hcell : wr.cell? ⟨g, at_, none⟩ = some (.int .i64 (os.getD at_ 0)) := by
            rw [World.ownsRow.cellAt hown at_ (by omega)]; simp [nums, hA]
          have hget : os[at_]? = some (os.getD at_ 0) := by simp [hA]
          clear hown
          generalize os.getD at_ 0 = y at hcell hget
          by_cases hxy : y = x
          · subst hxy
            have he := Lib.hid (hie'.out.1 hget)
            clear hget
            go_wp2_with (go_at_call 56; refine hix.out.mono ?_; rintro e w' ⟨rfl, rfl⟩)
            go_quiet (fail)
            go_wp2_with fail
            go_roundw
            case rel => exact ⟨k + 1, by omega, by go_num, by rw [he.out]; exact hown'.out, below_drawn hb ⟨nq, rfl⟩⟩
            case measure => simp [intOf]; omega
          · have hd : (y == x) = false := by simpa using hxy
            have hmiss := Lib.hid (show ¬ os[at_]? = some x from by rw [hget]; simpa using hxy)
            clear hget hxy
            go_wp2_with (go_at_call 56; refine hix.out.mono ?_; rintro e w' ⟨rfl, rfl⟩)
            go_quiet (fail)
            go_wp2_with (first
              | (at_builtin; refine wpList_append_src rfl (.tmp 34) (.tmp 37) rfl wr.heap.size (.slice none 0 0) 0 [] (by simp [Act.eval, Act.put]) (World.ownsRow_nil _ _ _ _) (.slice (some ⟨g, 0, none⟩) at_ cap) (os.take at_) (by simp [Act.eval, Act.put]) (src_row (w := wr.drewN nq) (hown'.out) 0 at_ cap (os.take at_) (by simp; omega) (take_src os at_)) (by simp; omega) (Nat.le_refl _) ?_; intro v1 w1 ho1 hb1; have ho1 := own_cast ho1 (m := at_) (ys := nums (os.take at_)) (by simp; omega) (by simp); have hx1 := (hb1.cell (p := ⟨b, off + k, none⟩) hbb).trans hx; have hs1 := hb1.size)
              | (at_builtin; refine wpList_append_src rfl (.tmp 39) (.tmp 44) rfl wr.heap.size v1 at_ (os.take at_) (by simp [Act.eval, Act.put]) (ho1.alloc _) _ [x] (by simp [Act.eval, Act.put]) (src_one w1 x) (by simp; omega) (Nat.le_trans hs1 (below_alloc _ _).size) ?_; intro v2 w2 ho2 hb2; have hs2 := Nat.le_trans (Nat.le_trans hs1 (below_alloc _ _).size) hb2.size; have ho2 := own_cast ho2 (m := at_ + 1) (ys := nums (os.take at_ ++ [x])) (by simp) (by simp); have hB2 : Below wr.heap.size wr w2 := ((below_drawn (Below.refl _ _) ⟨nq, rfl⟩).trans hb1).alloc hs1 _ |>.trans hb2; have hsr := src_row (own_keep hown'.out hB2) at_ (os.length - at_) (cap - at_) (os.drop at_) (by simp) (drop_src os at_); clear hx hx1)
              | (at_builtin; refine wpList_append_src rfl (.tmp 46) (.tmp 49) rfl wr.heap.size v2 (at_ + 1) (os.take at_ ++ [x]) (by simp [Act.eval, Act.put]) ho2 _ (os.drop at_) (by simp [Act.eval, Act.put]; try rfl) hsr (by simp; omega) hs2 ?_; intro v3 w3 ho3 hb3))
            go_roundw
            case rel =>
              have he : ofL (List.take (k + 1) zs) = os.take at_ ++ x :: os.drop at_ := hie'.out.2 hmiss.out
              refine ⟨k + 1, by omega, by go_num, own_weak (own_cast ho3 (by rw [he]; simp; omega) (by rw [he]; simp)) hbs, ?_⟩
              exact hb.trans ((hB2.trans hb3).mono hbs)
            case measure => simp [intOf]; omega
        · have hA' := Lib.hid (show at_ = os.length from by omega)
          have hmiss := Lib.hid (show ¬ os[at_]? = some x from by rw [hA'.out]; simp)
          clear hown
          by_cases hq : at_ = cap
          · obtain rfl : cap = at_ := hq.symm
            go_wp2_with (go_at_call 56; refine hix.out.mono ?_; rintro e w' ⟨rfl, rfl⟩)
            go_quiet (fail)
            go_wp2_with (first
              | (at_builtin; refine wpList_append_src rfl (.tmp 34) (.tmp 37) rfl wr.heap.size (.slice none 0 0) 0 [] (by simp [Act.eval, Act.put]) (World.ownsRow_nil _ _ _ _) (.slice (some ⟨g, 0, none⟩) cap cap) (os.take cap) (by simp [Act.eval, Act.put]) (src_row (w := wr.drewN nq) (hown'.out) 0 cap cap (os.take cap) (by simp; omega) (take_src os cap)) (by simp; omega) (Nat.le_refl _) ?_; intro v1 w1 ho1 hb1; have ho1 := own_cast ho1 (m := cap) (ys := nums (os.take cap)) (by simp; omega) (by simp); have hx1 := (hb1.cell (p := ⟨b, off + k, none⟩) hbb).trans hx; have hs1 := hb1.size)
              | (at_builtin; refine wpList_append_src rfl (.tmp 39) (.tmp 44) rfl wr.heap.size v1 cap (os.take cap) (by simp [Act.eval, Act.put]) (ho1.alloc _) _ [x] (by simp [Act.eval, Act.put]) (src_one w1 x) (by simp; omega) (Nat.le_trans hs1 (below_alloc _ _).size) ?_; intro v2 w2 ho2 hb2; have hs2 := Nat.le_trans (Nat.le_trans hs1 (below_alloc _ _).size) hb2.size; have ho2 := own_cast ho2 (m := cap + 1) (ys := nums (os.take cap ++ [x])) (by simp) (by simp); have hB2 : Below wr.heap.size wr w2 := ((below_drawn (Below.refl _ _) ⟨nq, rfl⟩).trans hb1).alloc hs1 _ |>.trans hb2; have hsr := src_end w2 ⟨g, 0, none⟩ 0; clear hx hx1)
              | (at_builtin; refine wpList_append_src rfl (.tmp 46) (.tmp 49) rfl wr.heap.size v2 (cap + 1) (os.take cap ++ [x]) (by simp [Act.eval, Act.put]) ho2 (.slice (some ⟨g, 0, none⟩) 0 0) [] (by simp [Act.eval, Act.put]; try omega) hsr (by simp; omega) hs2 ?_; intro v3 w3 ho3 hb3))
            go_roundw
            case rel =>
              have he : ofL (List.take (k + 1) zs) = os.take cap ++ x :: os.drop cap := hie'.out.2 hmiss.out
              refine ⟨k + 1, by omega, by go_num, own_weak (own_cast ho3 (by rw [he, hA'.out]; simp) (by rw [he, hA'.out]; simp)) hbs, ?_⟩
              exact hb.trans ((hB2.trans hb3).mono hbs)
            case measure => simp [intOf]; omega
          · have hq' : at_ < cap := by omega
            go_wp2_with (go_at_call 56; refine hix.out.mono ?_; rintro e w' ⟨rfl, rfl⟩)
            go_quiet (fail)
            go_wp2_with (first
              | (at_builtin; refine wpList_append_src rfl (.tmp 34) (.tmp 37) rfl wr.heap.size (.slice none 0 0) 0 [] (by simp [Act.eval, Act.put]) (World.ownsRow_nil _ _ _ _) (.slice (some ⟨g, 0, none⟩) at_ cap) (os.take at_) (by simp [Act.eval, Act.put]) (src_row (w := wr.drewN nq) (hown'.out) 0 at_ cap (os.take at_) (by simp; omega) (take_src os at_)) (by simp; omega) (Nat.le_refl _) ?_; intro v1 w1 ho1 hb1; have ho1 := own_cast ho1 (m := at_) (ys := nums (os.take at_)) (by simp; omega) (by simp); have hx1 := (hb1.cell (p := ⟨b, off + k, none⟩) hbb).trans hx; have hs1 := hb1.size)
              | (at_builtin; refine wpList_append_src rfl (.tmp 39) (.tmp 44) rfl wr.heap.size v1 at_ (os.take at_) (by simp [Act.eval, Act.put]) (ho1.alloc _) _ [x] (by simp [Act.eval, Act.put]) (src_one w1 x) (by simp; omega) (Nat.le_trans hs1 (below_alloc _ _).size) ?_; intro v2 w2 ho2 hb2; have hs2 := Nat.le_trans (Nat.le_trans hs1 (below_alloc _ _).size) hb2.size; have ho2 := own_cast ho2 (m := at_ + 1) (ys := nums (os.take at_ ++ [x])) (by simp) (by simp); have hB2 : Below wr.heap.size wr w2 := ((below_drawn (Below.refl _ _) ⟨nq, rfl⟩).trans hb1).alloc hs1 _ |>.trans hb2; have hsr := src_end w2 ⟨g, at_, none⟩ (cap - at_); clear hx hx1)
              | (at_builtin; refine wpList_append_src rfl (.tmp 46) (.tmp 49) rfl wr.heap.size v2 (at_ + 1) (os.take at_ ++ [x]) (by simp [Act.eval, Act.put]) ho2 (.slice (some ⟨g, at_, none⟩) 0 (cap - at_)) [] (by simp [Act.eval, Act.put]; try omega) hsr (by simp; omega) hs2 ?_; intro v3 w3 ho3 hb3))
            go_roundw
            case rel =>
              have he : ofL (List.take (k + 1) zs) = os.take at_ ++ x :: os.drop at_ := hie'.out.2 hmiss.out
              refine ⟨k + 1, by omega, by go_num, own_weak (own_cast ho3 (by rw [he, hA'.out]; simp) (by rw [he, hA'.out]; simp)) hbs, ?_⟩
              exact hb.trans ((hB2.trans hb3).mono hbs)
            case measure => simp [intOf]; omega
    · rw [List.take_of_length_le (by omega)] at hown
      have hown' := Lib.hid hown
      clear hown
      go_wp2_with fail
      go_ret
      exact ⟨_, rfl, hown'.out, hb⟩
set_option maxHeartbeats 1000000 in
theorem rof_zero (a : Option Addr) (c : Nat) (w : World) : Calls Tryd.prog 38 #[.slice a 0 c] w (OfPost w []) := by
  go_enter Tryd.func38, Tryd.ntmps38
  go_wp2_with fail
  go_loop [3, 4] (fun v i => v = .slice none 0 0 ∧ i = .int .i64 0) (fun _ _ => 0)
  case atStart => exact ⟨rfl, rfl⟩
  case round =>
    obtain ⟨rfl, rfl⟩ := hrel
    go_wp2_with fail
    go_ret
    exact ⟨_, rfl, World.ownsRow_nil _ _ _ _, Below.refl _ _⟩
theorem rof_any (sv : Value) (zs : List Int) (w : World) (h : Rd w sv zs) (hl : zs.length ≤ 10000) : Calls Tryd.prog 38 #[sv] w (OfPost w (ofL zs)) := by
  rcases h with ⟨a, cap, rfl, rfl⟩ | ⟨b, off, cap, rfl, h1, _, h3, h4⟩
  · exact rof_zero a cap w
  · exact rof_some b off cap zs w hl h3 h4
end Go.Proofs.YtnlpiaejfmdckaaDoor.Ids
