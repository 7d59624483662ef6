/- Compare, as the sort asks of it; the sort of nodes. -/
import Derived.Test.YtclefcjojlkcnaaDoorSh
import Derived.Test.YtclefcjojlkcnaaDoorAM
import Derived.Test.YtclefcjojlkcnaaDoorAH
namespace Go.Proofs.YtclefcjojlkcnaaDoor.V
open Go.RowKit Go.Sort
open Go.Proofs.YtclefcjojlkcnaaDoor.G (RowA Step mem dom cN Cs)
set_option linter.unusedVariables false
set_option linter.unusedSimpArgs false
theorem grown_end {w w0 : World} {os : Array Obj} (h : w0 = grow w os) (o : Obj) : ∃ q os', (w0.alloc o).drew = grow (w.drewN q) os' := by
  subst h
  exact ⟨1, os ++ #[o], by rw [alloc_eq_grow, grow_grow]; rfl⟩
set_option maxRecDepth 100000 in
set_option maxHeartbeats 1000000 in
theorem cmp13g (op wd vl op' wd' vl' : Int) (nm nm' : ByteArray) (p q : Option Addr) (c d : Nat) (zs ys : List Int) (w : World) (hz : zs.length ≤ 1000) (hy : ys.length ≤ 1000) (h : Ra w p zs) (h' : Ra w q ys) : Calls Tryd.prog 13 #[.agg #[.int .i64 op, .int .i64 wd, .int .u64 vl, .string nm, .slice p zs.length c], .agg #[.int .i64 op', .int .i64 wd', .int .u64 vl', .string nm', .slice q ys.length d]] w fun e w' => e = .returned (.int .i64 (cmpN op wd vl op' wd' vl' nm nm' zs ys)) ∧ ∃ q os', w' = grow (w.drewN q) os' := by
  have hk0 : BK w ((w.alloc (.cells #[.int .i64 op, .int .i64 wd, .int .u64 vl, .string nm, .slice p zs.length c] 26)).alloc (.cells #[.int .i64 op', .int .i64 wd', .int .u64 vl', .string nm', .slice q ys.length d] 26)) := bk_alloc (bk_alloc (BK.refl w) _) _
  have hx := (b5_new w (.int .i64 op) (.int .i64 wd) (.int .u64 vl) (.string nm) (.slice p zs.length c) 26).keep (bk_alloc (BK.refl _) (.cells #[.int .i64 op', .int .i64 wd', .int .u64 vl', .string nm', .slice q ys.length d] 26)) (by simp)
  have hy5 := b5_new (w.alloc (.cells #[.int .i64 op, .int .i64 wd, .int .u64 vl, .string nm, .slice p zs.length c] 26)) (.int .i64 op') (.int .i64 wd') (.int .u64 vl') (.string nm') (.slice q ys.length d) 26
  have hsz : ((w.alloc (.cells #[.int .i64 op, .int .i64 wd, .int .u64 vl, .string nm, .slice p zs.length c] 26)).alloc (.cells #[.int .i64 op', .int .i64 wd', .int .u64 vl', .string nm', .slice q ys.length d] 26)).heap.size = w.heap.size + 2 := by simp
  have hra := h.keep hk0
  have hrb := h'.keep hk0
  rw [show (w.alloc (.cells #[.int .i64 op, .int .i64 wd, .int .u64 vl, .string nm, .slice p zs.length c] 26)).heap.size = w.heap.size + 1 by simp] at hy5
  clear h h'
  have HW := Lib.hid (show (w.alloc (.cells #[.int .i64 op, .int .i64 wd, .int .u64 vl, .string nm, .slice p zs.length c] 26)).alloc (.cells #[.int .i64 op', .int .i64 wd', .int .u64 vl', .string nm', .slice q ys.length d] 26) = grow w (#[.cells #[.int .i64 op, .int .i64 wd, .int .u64 vl, .string nm, .slice p zs.length c] 26] ++ #[.cells #[.int .i64 op', .int .i64 wd', .int .u64 vl', .string nm', .slice q ys.length d] 26]) from by rw [alloc_eq_grow, alloc_eq_grow, grow_grow])
  go_enter Tryd.func13, Tryd.ntmps13
  go_wp2_with fail
  generalize (w.alloc (.cells #[.int .i64 op, .int .i64 wd, .int .u64 vl, .string nm, .slice p zs.length c] 26)).alloc (.cells #[.int .i64 op', .int .i64 wd', .int .u64 vl', .string nm', .slice q ys.length d] 26) = w0 at HW hk0 hx hy5 hsz hra hrb ⊢
  have KC := Lib.hid (fun wc (hb : BK w0 wc) => And.intro (hx.keep hb (by omega)) (hy5.keep hb (by omega)))
  have RA := Lib.hid hra
  have RB := Lib.hid hrb
  have HK0 := Lib.hid hk0
  have k0 := BK.refl w0
  clear hk0 hsz hra hrb
  obtain ⟨x0, x1, x2, x3, x4⟩ := hx
  obtain ⟨y0, y1, y2, y3, y4⟩ := hy5
  go_region_held3 (fun w' => w'.cell? ⟨w.heap.size, 0, none⟩ = some (.int .i64 op) ∧ w'.cell? ⟨w.heap.size, 1, none⟩ = some (.int .i64 wd) ∧ w'.cell? ⟨w.heap.size, 2, none⟩ = some (.int .u64 vl) ∧ w'.cell? ⟨w.heap.size, 3, none⟩ = some (.string nm) ∧ w'.cell? ⟨w.heap.size, 4, none⟩ = some (.slice p zs.length c) ∧
      w'.cell? ⟨w.heap.size + 1, 0, none⟩ = some (.int .i64 op') ∧ w'.cell? ⟨w.heap.size + 1, 1, none⟩ = some (.int .i64 wd') ∧ w'.cell? ⟨w.heap.size + 1, 2, none⟩ = some (.int .u64 vl') ∧ w'.cell? ⟨w.heap.size + 1, 3, none⟩ = some (.string nm') ∧ w'.cell? ⟨w.heap.size + 1, 4, none⟩ = some (.slice q ys.length d))
    (go_keep)
    ((first | (go_at_call 35; refine (or_lit _ _ _ _ _ _ _).mono ?_; rintro e w' ⟨rfl, rfl⟩) | (go_at_call 40; refine (sl40 p q c d zs ys _ hz hy (RA.out.keep (bk_drew k0)) (RB.out.keep (bk_drew k0))).mono ?_; rintro e w' ⟨rfl, rfl⟩) | (go_at_call 39; refine (cmp39 _ _ _).mono ?_; rintro e w' ⟨rfl, rfl⟩) | (go_at_call 38; refine (cmp38 _ _ _).mono ?_; rintro e w' ⟨rfl, rfl⟩) | (go_at_call 37; refine (cmp37 _ _ _).mono ?_; rintro e w' ⟨rfl, rfl⟩) | (go_at_call 36; refine (cmp36 _ _ _).mono ?_; rintro e w' ⟨rfl, rfl⟩)))
  all_goals go_wp2_with fail
  all_goals go_ret
  all_goals exact ⟨rfl, grown_end HW.out _⟩
theorem isAgg26 (w : World) : (isAgg 26).run Tryd.prog w = .ok true w := by kernel_rfl
theorem sizeOf26 (w : World) : (Go.sizeOf 26).run Tryd.prog w = .ok 5 w := by kernel_rfl
abbrev El := Nn × Option Addr × Nat
def eC (e : El) : Array Value := cN e.1 e.2.1 e.2.2
def encF (L : List El) (i : Fin L.length) : List Value := (eC L[i]).toList
def cfF (L : List El) (i j : Fin L.length) : Int := cmpM L[i].1 L[j].1
theorem swoF (L : List El) : SWO (ltOf (cfF L)) where
  irrefl x := decide_eq_false (by unfold cfF; rw [cmpM_self]; omega)
  trans x y z h1 h2 := by
    exact decide_eq_true (cmpM_trans (of_decide_eq_true h1) (of_decide_eq_true h2))
  ntrans x y z h1 h2 := by
    have h1 : ¬ cmpM L[x].1 L[y].1 < 0 := of_decide_eq_false h1
    have h2 : ¬ cmpM L[y].1 L[z].1 < 0 := of_decide_eq_false h2
    refine decide_eq_false fun h3 => ?_
    have h3 : cmpM L[x].1 L[z].1 < 0 := h3
    have a1 := cmpM_anti L[x].1 L[y].1
    have a2 := cmpM_anti L[y].1 L[z].1
    by_cases e1 : cmpM L[x].1 L[y].1 = 0
    · rw [cmpM_zero.1 e1] at h3; exact h2 h3
    · by_cases e2 : cmpM L[y].1 L[z].1 = 0
      · rw [← cmpM_zero.1 e2] at h3; exact h1 h3
      · have h5 : cmpM L[z].1 L[x].1 < 0 := cmpM_trans (b := L[y].1) (by omega) (by omega)
        have a3 := cmpM_anti L[x].1 L[z].1
        omega
theorem heap_sortWorld {α : Type} [Inhabited α] (enc : α → List Value) (k : Nat) (w : World) (blk off n : Nat) (d : Array α) (os : Array Obj) {j : Nat} (hj : j < w.heap.size) (hne : j ≠ blk) : (sortWorldK enc k w blk off n d os).heap[j]? = w.heap[j]? := by
  unfold sortWorldK
  rw [heap_grow_old _ _ (by rw [size_putRowK]; exact hj)]
  simp only [putRowK, putRow, mapBlock, Sort.ahead, Array.getElem?_modify]
  rw [if_neg (by omega)]
theorem step_sortWorld {α : Type} [Inhabited α] (enc : α → List Value) (k : Nat) (w : World) (blk off n : Nat) (d : Array α) (os : Array Obj) : Step w (sortWorldK enc k w blk off n d os) (fun j => j = blk) (fun j => j = blk) :=
  ⟨rfl, rfl, rfl, size_sortWorldK_c enc k w blk off n d os, fun j hj hne => heap_sortWorld enc k w blk off n d os hj hne, fun _ h => .inl h⟩
theorem frozen_sortWorld {α : Type} [Inhabited α] (enc : α → List Value) (k : Nat) (w : World) (blk off n : Nat) (d : Array α) (os : Array Obj) (h : blk < w.heap.size) {j : Nat} : (sortWorldK enc k w blk off n d os).frozen? ⟨blk, j, none⟩ = w.frozen? ⟨blk, j, none⟩ := by
  have e : (sortWorldK enc k w blk off n d os).heap[blk]? = (putRowK enc k (Sort.ahead w n) blk off d).heap[blk]? := by
    unfold sortWorldK
    exact heap_grow_old _ _ (by rw [size_putRowK]; exact h)
  rw [World.frozen?_of_block (a := ⟨blk, j, none⟩) e]
  simp only [World.frozen?, putRowK, putRow, mapBlock, Sort.ahead, Array.getElem?_modify]
  rw [if_pos trivial]
  cases w.heap[blk]? with
  | none => rfl
  | some o => cases o <;> rfl
theorem rowA_ra {w : World} {blk : Nat} {q : Option Addr} {zs : List Int} (h : RowA (fun b => b ≠ blk ∧ b < w.heap.size) w q zs) : Ra w q zs := fun h0 => by
  obtain ⟨b, o, h1, h2, h3⟩ := h h0
  exact ⟨b, o, h1, h2.2, h3⟩
theorem cmpF (L : List El) [Inhabited (Fin L.length)] (w : World) (blk size : Nat) (hA : ∀ e ∈ L, RowA (fun b => b ≠ blk ∧ b < w.heap.size) w e.2.1 e.1.zs ∧ e.1.zs.length ≤ 1000) : CmpLays Tryd.prog 13 #[] (encF L) 5 (cfF L) blk 0 size w := fun m os dk hs x y => by
  have hk : ∀ b, (b ≠ blk ∧ b < w.heap.size) → (sortWorldK (encF L) 5 w blk 0 m dk os).heap[b]? = w.heap[b]? ∧ (b ≠ blk ∧ b < (sortWorldK (encF L) 5 w blk 0 m dk os).heap.size) := fun b hb =>
    ⟨heap_sortWorld _ _ _ _ _ _ _ _ hb.2 hb.1, hb.1, Nat.lt_of_lt_of_le hb.2 (size_sortWorldK_c _ _ _ _ _ _ _ _)⟩
  have h1 := hA L[x] (List.getElem_mem _)
  have h2 := hA L[y] (List.getElem_mem _)
  exact cmp13g L[x].1.op L[x].1.wd L[x].1.vl L[y].1.op L[y].1.wd L[y].1.vl L[x].1.nm L[y].1.nm L[x].2.1 L[y].2.1 L[x].2.2 L[y].2.2 L[x].1.zs L[y].1.zs _ h1.2 h2.2 (rowA_ra (h1.1.keep hk)) (rowA_ra (h2.1.keep hk))
theorem inc_of_sorted : ∀ {ms : List Nn}, ms.Pairwise (fun a b => ¬ cmpM b a < 0) → ms.Nodup → Inc ms
  | [], _, _ => List.Pairwise.nil
  | m :: ms, h, hn => by
    have h' := List.pairwise_cons.1 h
    have hn' := List.nodup_cons.1 hn
    refine List.pairwise_cons.2 ⟨fun b hb => ?_, inc_of_sorted h'.2 hn'.2⟩
    have h1 := h'.1 b hb
    have h2 := cmpM_anti m b
    have h3 : cmpM m b ≠ 0 := fun e => hn'.1 (by rw [cmpM_zero.1 e]; exact hb)
    omega
theorem sort48 (L : List El) (hL : 0 < L.length) (hb : L.length ≤ 100000) (w : World) (blk cap : Nat) (hblk : blk < w.heap.size) (hrow : ∀ k (h : k < L.length), Cs w blk (k * 5) (eC L[k])) (hfz : ∀ j, w.frozen? ⟨blk, j, none⟩ = false) (hA : ∀ e ∈ L, RowA (fun b => b ≠ blk ∧ b < w.heap.size) w e.2.1 e.1.zs ∧ e.1.zs.length ≤ 1000) (hnd : (L.map (·.1)).Nodup) :
    Calls Tryd.prog 48 #[.slice (some ⟨blk, 0, none⟩) L.length cap, .func (.func 13) #[] #[]] w fun e w' => e = .returned (.tuple #[]) ∧ ∃ L' : List El, L'.Perm L ∧ Inc (L'.map (·.1)) ∧ (∀ k (h : k < L'.length), Cs w' blk (k * 5) (eC L'[k])) ∧ Step w w' (fun j => j = blk) (fun j => j = blk) ∧ (∀ j, w'.frozen? ⟨blk, j, none⟩ = w.frozen? ⟨blk, j, none⟩) := by
  haveI : Inhabited (Fin L.length) := ⟨⟨0, hL⟩⟩
  have hsz : (List.finRange L.length).toArray.size = L.length := by simp
  have eg : ∀ args w, (callFunc 13 args).run Tryd.prog w = .ok (.enter 13 args) w := enters_of Tryd.func13 (by kernel_rfl) rfl
  have hH : HoldsK (encF L) 5 w blk 0 (List.finRange L.length).toArray := fun j hj => by
    rw [size_flatK, hsz] at hj
    refine ⟨?_, hfz _⟩
    have hd : j / 5 < L.length := by omega
    rw [get_flatK _ _ _ _ (by rw [hsz]; exact hj)]
    have e1 : ((List.finRange L.length).toArray)[j / 5]! = ⟨j / 5, hd⟩ := by
      rw [getElem!_pos _ _ (by rw [hsz]; exact hd)]; simp
    rw [e1]
    have h5 : (eC L[j / 5]).size = 5 := rfl
    have hm : j % 5 < 5 := Nat.mod_lt _ (by decide)
    have := hrow (j / 5) hd (j % 5) (eC L[j / 5])[j % 5] (Array.getElem?_eq_getElem (by rw [h5]; exact hm))
    rw [show 0 + j = j / 5 * 5 + j % 5 by omega, this]
    show _ = some (id (encF L ⟨j / 5, hd⟩)[j % 5]!)
    rw [show encF L ⟨j / 5, hd⟩ = (eC L[j / 5]).toList from rfl, getElem!_pos _ _ (by show j % 5 < (eC L[j / 5]).toList.length; rw [Array.length_toList, h5]; exact hm)]
    rfl
  have hcon := AnyQ.slices_SortFunc Tryd.sortN 5 isAgg26 sizeOf26 (encF L) (fun _ => rfl) (fun x v hv => G.one_cN _ _ _ v hv) (cfF L) (swoF L) 13 #[] blk 0 cap (List.finRange L.length).toArray w eg (cmpF L w blk _ hA) hH hblk (by rw [hsz]; omega)
  rw [hsz] at hcon
  refine hcon.mono ?_
  rintro e w' ⟨he, d', n, os, hp, hs, rfl⟩
  obtain ⟨p1, _, p3⟩ := hp
  rw [hsz] at p1
  have px : d'.extract 0 L.length = d' := Array.ext (by simp [p1]) (fun i h1 h2 => by simp)
  have py : (List.finRange L.length).toArray.extract 0 L.length = (List.finRange L.length).toArray := Array.ext (by simp) (fun i h1 h2 => by simp)
  rw [px, py] at p3
  have hperm : d'.toList.Perm (List.finRange L.length) := by simpa using p3
  have hmapL : (List.finRange L.length).map (fun i => L[i]) = L := by
    refine List.ext_getElem (by simp) fun i h1 h2 => by simp
  have hL' : (d'.toList.map (fun i => L[i])).Perm L := by
    have := hperm.map (fun i => L[i])
    rwa [hmapL] at this
  have hnd' : ((d'.toList.map (fun i => L[i])).map (·.1)).Nodup := (hL'.map (·.1)).nodup_iff.2 hnd
  refine ⟨he, d'.toList.map (fun i => L[i]), hL', inc_of_sorted ?_ hnd', fun k hk => ?_, step_sortWorld _ _ _ _ _ _ _ _, fun j => frozen_sortWorld _ _ _ _ _ _ _ _ hblk⟩
  · rw [List.map_map, List.pairwise_iff_getElem]
    intro i j hi hj hij
    have hi' : i < L.length := by simpa [p1] using hi
    have hj' : j < L.length := by simpa [p1] using hj
    have := hs i j (Nat.zero_le _) hij hj'
    rw [getElem!_pos d' i (by omega), getElem!_pos d' j (by omega)] at this
    have h9 : ¬ cmpM L[d'[j]].1 L[d'[i]].1 < 0 := of_decide_eq_false this
    simpa using h9
  · have hk' : k < L.length := by simpa [p1] using hk
    have hh := holdsK_sortWorldK_c (encF L) 5 w blk 0 _ d' n os hH hblk (by rw [p1, hsz])
    intro j v hj
    have hj5 : j < 5 := (Array.getElem?_eq_some_iff.1 hj).1
    have hc := (hh.cell (i := k) (c := j) (by omega) hj5).1
    rw [show k * 5 + j = 0 + k * 5 + j by omega, hc, ← hj, getElem!_pos d' k (by omega)]
    simp only [List.getElem_map, Array.getElem_toList]
    show some ((eC L[d'[k]]).toList[j]!) = _
    rw [getElem!_pos _ _ (by rw [Array.length_toList]; exact hj5), Array.getElem_toList, Array.getElem?_eq_getElem hj5]
    rfl
end Go.Proofs.YtclefcjojlkcnaaDoor.V
