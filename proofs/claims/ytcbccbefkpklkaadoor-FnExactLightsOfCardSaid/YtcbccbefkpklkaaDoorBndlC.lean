/- Texts of one chain, put together: RowB PlnI PlnJ PlnK Flat RowI RowF RowG RowM Wst PrtM LawWst Sfe LawSfe LawVars LawPth LawPrt. -/
import Derived.Deep.RegionLaw
import Derived.BigRegion
import Derived.Laws.Rows
import Derived.Deep.RegionHeld3
import Derived.OpenVars
import Derived.RowKitTokens
import Derived.Lib.SmallJoins
import Derived.Deep.Slices
import Derived.Deep.Fields
import Derived.ChangeSame
import Derived.Test.YtcbccbefkpklkaaDoorBndlB
set_option linter.unusedSimpArgs false
/- What the phases of a plan show to a path, as Lean data. No walk. -/
namespace Go.Proofs.YtcbccbefkpklkaaDoor
open Go.RowKit
set_option linter.unusedVariables false

/-- what a phase shows to the path with the index i. -/
def showP (f : Phs) (i : Nat) (most : Int) : List Int :=
  if f.opn.testBit i then List.replicate f.green.toNat 1 ++ (if f.nxt.testBit i then List.replicate f.clr.toNat 1 else List.replicate (minI most f.clr).toNat 2 ++ List.replicate (f.clr - minI most f.clr).toNat 0)
  else List.replicate (f.green + f.clr).toNat 0
theorem map_const {f : Nat → Int} {v : Int} (n : Nat) (h : ∀ s, s < n → f s = v) : (List.range n).map f = List.replicate n v := by
  apply List.ext_getElem
  · simp
  · intro k h1 h2
    simp only [List.getElem_map, List.getElem_range, List.getElem_replicate]
    exact h k (by simpa using h1)
theorem map_split (f : Nat → Int) (a b : Nat) : (List.range (a + b)).map f = (List.range a).map f ++ (List.range b).map fun s => f (a + s) := by
  rw [List.range_add, List.map_append, List.map_map]
  rfl
theorem has_maskL {ps : List Pth} {zs : List Int} (h : isTog ps zs = true) {i : Nat} (hi : i < ps.length) : hasI zs (idAt ps i) = (maskL ps zs).testBit i := by
  obtain ⟨ha, h1, h2, _, _⟩ := tog_maskL h
  have := has_ids ha h1 hi
  rwa [← h2] at this
theorem idP_row {ps : List Pth} (h : arePs ps = true) {i : Nat} (hi : i < ps.length) : idP ps (idAt ps i) = pAt ps i := by
  unfold idP
  rw [findK_of h hi]
  rfl
theorem show_row {ps : List Pth} {p : List Prt} (h : isPlan ps p = true) {j i : Nat} (hj : j < p.length) (hi : i < ps.length) : showP (phsAt ps p j) i (clearN (pAt ps i)) = rowJ ps p (idAt ps i) j := by
  obtain ⟨⟨hl, _⟩, ha, _, hok⟩ := isPlan_parts h
  have hnx := nextJ_lt (p := p) (j := j) (by omega)
  have t1 := (okPrt_parts (hok j hj)).2.1
  have t2 := (okPrt_parts (hok _ hnx)).2.1
  have hg := (okPrt_parts (hok j hj)).2.2
  have hlb := leastG_bound ps (prAt p j).stage
  have hc := clrAt_bound ps p j
  have hcn := clearN_bound (pAt ps i)
  have b1 := has_maskL t1 hi
  have b2 := has_maskL t2 hi
  have hlj : ∀ s : Nat, lightJ ps p j s (idAt ps i) = if (maskL ps (prAt p j).stage).testBit i then (if decide ((s : Int) < (prAt p j).green) || (maskL ps (prAt p (nextJ p j)).stage).testBit i then 1 else if (s : Int) < (prAt p j).green + clearN (pAt ps i) then 2 else 0) else 0 := fun s => by
    unfold lightJ
    rw [idP_row ha hi, b1, b2]
  unfold rowJ showP phsAt longAt
  simp only
  generalize (prAt p j).green = g at *
  generalize clrAt ps p j = c at *
  generalize clearN (pAt ps i) = m at *
  have ef : (fun (s : Nat) => lightJ ps p j s (idAt ps i)) = fun s : Nat => if (maskL ps (prAt p j).stage).testBit i then (if decide ((s : Int) < g) || (maskL ps (prAt p (nextJ p j)).stage).testBit i then 1 else if (s : Int) < g + m then 2 else 0) else 0 := funext hlj
  rw [ef]
  cases (maskL ps (prAt p j).stage).testBit i
  · rw [if_neg (by decide)]
    exact (map_const _ fun s _ => rfl).symm
  · rw [if_pos rfl, show (g + c).toNat = g.toNat + c.toNat by omega, map_split, map_const (v := 1) g.toNat (fun s hs => by
      rw [if_pos rfl, decide_eq_true (by omega)]; rfl)]
    congr 1
    cases (maskL ps (prAt p (nextJ p j)).stage).testBit i
    · rw [if_neg (by decide)]
      obtain ⟨k, hk⟩ : ∃ k : Nat, minI m c = k := ⟨(minI m c).toNat, by unfold minI; split <;> omega⟩
      have hkc : (k : Int) ≤ c ∧ (k : Int) ≤ m ∧ ((k : Int) = c ∨ (k : Int) = m) := by
        unfold minI at hk
        split at hk <;> omega
      rw [hk, show c.toNat = k + (c - k).toNat by omega, map_split]
      congr 1
      · exact (map_const _ fun s hs => by
          rw [if_pos rfl, decide_eq_false (by omega), Bool.or_self, if_neg (by decide), if_pos (by omega)]).symm
      · exact (map_const _ fun s hs => by
          rw [if_pos rfl, decide_eq_false (by omega), Bool.or_self, if_neg (by decide), if_neg (by omega)]).symm
    · rw [if_pos rfl]
      exact (map_const _ fun s hs => by rw [if_pos rfl, Bool.or_true]; rfl).symm
theorem phs_at {ps : List Pth} {p : List Prt} {k j : Nat} (h : j < k) : (phsTo ps p k)[j]? = some (phsAt ps p j) := by
  unfold phsTo
  rw [List.getElem?_map, List.getElem?_range h]
  rfl
theorem phs_cell {l : List Phs} {j : Nat} {f : Phs} (h : l[j]? = some f) (d : Nat) (hd : d < 5) : (l.flatMap Phs.cells)[j * 5 + d]? = f.cells[d]? := by
  induction l generalizing j with
  | nil => simp at h
  | cons x l ih =>
    rw [List.flatMap_cons]
    cases j with
    | zero =>
      obtain rfl : x = f := by simpa using h
      rw [List.getElem?_append_left (by show 0 * 5 + d < 5; omega), Nat.zero_mul, Nat.zero_add]
    | succ j =>
      rw [List.getElem?_append_right (by show 5 ≤ _; omega), show (j + 1) * 5 + d - x.cells.length = j * 5 + d by show (j + 1) * 5 + d - 5 = _; omega]
      exact ih (by simpa using h)
theorem showP_len {f : Phs} {i : Nat} {most : Int} (hg : 0 ≤ f.green) (hc : 0 ≤ f.clr) (hm : 0 ≤ most) : (showP f i most).length = (f.green + f.clr).toNat := by
  have hk : 0 ≤ minI most f.clr ∧ minI most f.clr ≤ f.clr := by unfold minI; split <;> omega
  unfold showP
  split
  · split
    · simp only [List.length_append, List.length_replicate]; omega
    · simp only [List.length_append, List.length_replicate]; omega
  · simp
end Go.Proofs.YtcbccbefkpklkaaDoor

/- Chapter 8's program: stagesIn, timePlan and what asks it. -/
namespace Go.Proofs.YtcbccbefkpklkaaDoor
open Go.RowKit
set_option linter.unusedVariables false

/-- the cells of a phase. -/
def phC (a b : Nat) (gr cl le : Int) : List Value := [.int .u16 (a : Nat), .int .u16 (b : Nat), .int .i64 gr, .int .i64 cl, .int .i64 le]
theorem phs_push (ps : List Pth) (p : List Prt) (k : Nat) : (phsTo ps p (k + 1)).flatMap Phs.cells = (phsTo ps p k).flatMap Phs.cells ++ phC (maskL ps (prAt p k).stage) (maskL ps (prAt p (nextJ p k)).stage) (prAt p k).green (clrAt ps p k) (leastG ps (prAt p k).stage) := by
  rw [phsTo_succ, List.flatMap_append]
  rfl
theorem plan_off {ps : List Pth} {p : List Prt} (ha : arePs ps = false) : isPlan ps p = false := by
  rw [Bool.eq_false_iff]
  intro h
  have := (isPlan_parts h).2.1
  rw [ha] at this
  cases this
theorem stgs_mem {p : List Prt} {zs : List Int} (h : zs ∈ stgsOf p) : ∃ j, j < p.length ∧ zs = (prAt p j).stage := by
  obtain ⟨j, hj, e⟩ := List.getElem_of_mem h
  have hj' : j < p.length := by rw [stgsOf_len] at hj; exact hj
  refine ⟨j, hj', ?_⟩
  rw [← stgsOf_at hj', List.getD_eq_getElem?_getD, List.getElem?_eq_getElem hj, ← e]
  rfl
theorem plan_tog {ps : List Pth} {p : List Prt} (ha : arePs ps = true) (h : stsB ps (stgsOf p) = false) : isPlan ps p = false := by
  rw [Bool.eq_false_iff]
  intro hp
  have h4 := (isPlan_parts hp).2.2.2
  have : stsB ps (stgsOf p) = true := (stsB_tog ha).2 fun zs hz => by
    obtain ⟨j, hj, rfl⟩ := stgs_mem hz
    exact (okPrt_parts (h4 j hj)).2.1
  rw [h] at this
  cases this
theorem tog_at {ps : List Pth} {p : List Prt} (ha : arePs ps = true) (h : stsB ps (stgsOf p) = true) {j : Nat} (hj : j < p.length) : isTog ps (prAt p j).stage = true := by
  refine (stsB_tog ha).1 h _ ?_
  rw [← stgsOf_at hj, List.getD_eq_getElem?_getD, List.getElem?_eq_getElem (by rw [stgsOf_len]; exact hj)]
  exact List.getElem_mem _
theorem plan_cov {ps : List Pth} {p : List Prt} (h : coversP ps (stgsOf p) = false) : isPlan ps p = false := by unfold isPlan; rw [h, Bool.and_false]
theorem okPrt_mask {ps : List Pth} {q : Prt} (ht : isTog ps q.stage = true) : okPrt ps q = (!decide (maskL ps q.stage = 0) && inB q.green (leastG ps q.stage) 60) := by
  unfold okPrt
  rw [ht, Bool.and_true]
  congr 2
  exact decide_eq_decide.2 (maskL_empty ht).symm
set_option maxHeartbeats 2000000 in
theorem impl_stagesIn (A : Option Addr) (n c B : Nat) (p : List Prt) (w : World) (h : PrtsAt w B A n p) (hB : B ≤ w.heap.size) (hn : n ≤ 1048576) :
    Calls Tryd.prog 115 #[.slice A n c] w fun e w' => ∃ A' c', e = .returned (.slice A' n c') ∧ SSAt w' w'.heap.size A' n (stgsOf p) ∧ Below w.heap.size w w' := by
  have hl := h.1
  go_enter Tryd.func115, Tryd.ntmps115
  go_wp2_with ((with_reducible show wpList _ _ _ _ _ _); refine wpList_mkR rfl _ _ _ rfl 23 _ 1 _ Tryd.underlying103 info_ints (by decide) (n : Int) (n : Int) n rfl rfl rfl rfl (by omega) ?_; intro w1 hown hgrow)
  go_loopw [11] (fun i wr => ∃ (k : Nat) (us : List Value), k ≤ n ∧ i = .int .i64 k ∧ wr.ownsRow w.heap.size 23 1 (.slice (some ⟨w.heap.size, 0, none⟩) n n) n us ∧ (∀ j, j < k → ∃ A' m c', us[j]? = some (.slice A' m c') ∧ IntsAt .i64 w B A' m (prAt p j).stage ∧ m ≤ c' ∧ (A' = none → m = 0 ∧ c' = 0)) ∧ Below w.heap.size w wr) (fun i _ => n - (intOf i).toNat)
  case atStart => exact ⟨0, _, Nat.zero_le _, rfl, hown, fun j hj => absurd hj (by omega), below_grown hgrow⟩
  case round =>
    clear hown hgrow
    obtain ⟨k, us, hk, rfl, hown, heach, hbl⟩ := hrel
    have hsz := hbl.size
    have HE := Lib.hid heach
    clear heach
    by_cases hlt : k < n
    · obtain ⟨ad, A', m, c', rfl, hab, hq, hi, hmc, hnil⟩ := h.at hlt
      obtain ⟨c0, c1⟩ := hq.below hbl (by omega)
      generalize (prAt p k).green = g at *
      have hul : us.length = n := by have := hown.1; omega
      have HE2 : Hid (∀ j, j < k + 1 → ∃ A'' m' c'', (us.set k (.slice A' m c'))[j]? = some (.slice A'' m' c'') ∧ IntsAt .i64 w B A'' m' (prAt p j).stage ∧ m' ≤ c'' ∧ (A'' = none → m' = 0 ∧ c'' = 0)) := Lib.hid (fun j hj => by
        by_cases e : j < k
        · obtain ⟨A1, m1, c1, q1, q2⟩ := HE.out j e
          exact ⟨A1, m1, c1, by rw [List.getElem?_set_ne (by omega)]; exact q1, q2⟩
        · obtain rfl : j = k := by omega
          exact ⟨A', m, c', by rw [List.getElem?_set_self (by omega)], hi, hmc.1, hnil⟩)
      have hbA := (Below.refl wr.heap.size wr).alloc (Nat.le_refl _) (.cells #[.slice A' m c', .int .i64 g] 89)
      have hoA := ownr_below hown hbA
      have hbB := hbl.trans (hbA.mono hsz)
      obtain ⟨x0, hx0⟩ := ownr_some hoA (j := k) (by omega)
      have hf := World.ownsRow.frozenAt hoA k
      have hs := (World.ownsRow.stored hoA k (.slice A' m c')).1
      have HS := Lib.hid hs
      have HBS := Lib.hid (hbB.setCell (p := ⟨w.heap.size, k, none⟩) (Nat.le_refl _) (.slice A' m c'))
      clear hq hi hul hs hown hoA hbA hbB
      go_wp2
      go_roundw
      case rel => exact ⟨k + 1, _, by omega, by go_num, HS.out, HE2.out, HBS.out⟩
      case measure => simp [intOf]; omega
    · obtain rfl : k = n := by omega
      have HSS : Hid (SSAt wr wr.heap.size (some ⟨w.heap.size, 0, none⟩) k (stgsOf p)) := Lib.hid ⟨by rw [stgsOf_len]; exact hl, fun h0 => by
        obtain ⟨ad, e, hb, hc⟩ := (ownr_cells hown).2 (by omega)
        refine ⟨ad, e, hb, fun j hj => ?_⟩
        obtain ⟨A1, m1, c1, q1, q2, q3, q4⟩ := HE.out j hj
        exact ⟨A1, m1, c1, hc _ _ q1, by rw [stgsOf_at (by omega)]; exact (q2.laid hB hbl).up (Nat.le_trans hB hsz), q3, q4⟩⟩
      clear hown
      go_wp2
      go_ret
      exact ⟨_, _, rfl, HSS.out, hbl⟩
theorem phC_one (a b : Nat) (gr cl le : Int) : ∀ u ∈ phC a b gr cl le, u.oneCell' = true := by
  intro u hu
  simp only [phC, List.mem_cons, List.not_mem_nil, or_false] at hu
  rcases hu with rfl | rfl | rfl | rfl | rfl <;> rfl
theorem info_phase : (Tryd.prog.info? 114).map (fun i => (i.zero, i.size, i.bytes)) = some (some (.agg #[.int .u16 0, .int .u16 0, .int .i64 0, .int .i64 0, .int .i64 0]), 5, 32) := by kernel_rfl
theorem info_int1 : (Tryd.prog.info? 3).map (fun i => (i.zero, i.size, i.bytes)) = some (some (.int .i64 0), 1, 8) := by kernel_rfl
theorem row_cell {w : World} {lo : Nat} {E : TypeId} {g n c : Nat} {vs : List Value} (h : w.ownsRow lo E 1 (.slice (some ⟨g, 0, none⟩) n c) n vs) {j : Nat} {u : Value} (hj : vs[j]? = some u) : w.cell? ⟨g, j, none⟩ = some u := by
  rw [World.ownsRow.cellAt h j (by have := (List.getElem?_eq_some_iff.1 hj).1; rw [h.1] at this; exact this), hj]
theorem t13 {xs : List Value} (hx : xs.length = 13) (a b c u : Value) : (xs ++ [a, b, c])[13]? = some a ∧ (xs ++ [a, b, c])[14]? = some b ∧ (xs ++ [a, b, c])[15]? = some c ∧ (xs ++ [a, b, c]).set 13 u = xs ++ [u, b, c] ∧ (xs ++ [a, b, c]).set 14 u = xs ++ [a, u, c] ∧ (xs ++ [a, b, c]).set 15 u = xs ++ [a, b, u] := by
  refine ⟨?_, ?_, ?_, ?_, ?_, ?_⟩
  · rw [List.getElem?_append_right (by omega), hx]; rfl
  · rw [List.getElem?_append_right (by omega), hx]; rfl
  · rw [List.getElem?_append_right (by omega), hx]; rfl
  · rw [List.set_append_right _ _ (by omega), hx]; rfl
  · rw [List.set_append_right _ _ (by omega), hx]; rfl
  · rw [List.set_append_right _ _ (by omega), hx]; rfl
theorem apart_types {w : World} {lo lo' s s' n n' : Nat} {E E' : TypeId} {v v' : Value} {vs vs' : List Value} (h : w.ownsRow lo E s v n vs) (h' : w.ownsRow lo' E' s' v' n' vs') (hE : E ≠ E') (b : Nat) (e : v.ownBlock = some b) (e' : v'.ownBlock = some b) : False := by
  rcases h.2 with ⟨q, _⟩ | ⟨g, cap, cur, hv, hb, hg, _⟩
  · rw [q] at e; cases e
  rcases h'.2 with ⟨q, _⟩ | ⟨g', cap', cur', hv', hb', hg', _⟩
  · rw [q] at e'; cases e'
  rw [hv] at e
  rw [hv'] at e'
  have e1 : g = b := Option.some.inj e
  have e2 : g' = b := Option.some.inj e'
  subst e1
  subst e2
  rw [hg] at hg'
  injection hg' with q1
  injection q1 with q2 q3
  exact hE q3
set_option maxHeartbeats 4000000 in
set_option maxRecDepth 100000 in
theorem impl_tadd (g : Nat) (xs : List Value) (hx : xs.length = 13) (v1 v2 : Value) (L s : Int) (n : Nat) (us : List Value) (zs : List Int) (a b : Nat) (gr cl le : Int) (w : World) (hT : w.ownsRow g 95 1 (.slice (some ⟨g, 0, none⟩) 16 16) 16 (xs ++ [v1, v2, .int .i64 L]))
    (h1 : w.ownsRow (g + 1) 114 5 v1 n us) (h2 : w.ownsRow (g + 1) 3 1 v2 n (zs.map (Value.int .i64))) (hn : n ≤ 1000) (hL : -1000000 ≤ L ∧ L ≤ 1000000) (hS : -1000000 ≤ s ∧ s ≤ 1000000) :
    Calls Tryd.prog 119 #[.pointer (some ⟨g, 13, none⟩), .agg (phC a b gr cl le).toArray, .int .i64 s] w fun e w' => e = .returned (.tuple #[]) ∧ ∃ v1' v2', w'.ownsRow g 95 1 (.slice (some ⟨g, 0, none⟩) 16 16) 16 (xs ++ [v1', v2', .int .i64 (L + s)]) ∧
      w'.ownsRow (g + 1) 114 5 v1' (n + 1) (us ++ phC a b gr cl le) ∧ w'.ownsRow (g + 1) 3 1 v2' (n + 1) ((zs ++ [L]).map (Value.int .i64)) ∧ Below g w w' := by
  have hgw : g < w.heap.size := (ownr_block hT _ rfl).2
  have c13 := row_cell hT (t13 hx v1 v2 (.int .i64 L) v1).1
  have c14 := row_cell hT (t13 hx v1 v2 (.int .i64 L) v1).2.1
  have c15 := row_cell hT (t13 hx v1 v2 (.int .i64 L) v1).2.2.1
  have HT := Lib.hid hT
  have H1 := Lib.hid h1
  have H2 := Lib.hid h2
  clear hT h1 h2
  have hlit : (phC a b gr cl le).toArray = #[.int .u16 (a : Nat), .int .u16 (b : Nat), .int .i64 gr, .int .i64 cl, .int .i64 le] := rfl
  have HC : Hid (∀ (X : Obj) (j : Nat) (u : Value), (phC a b gr cl le)[j]? = some u → ((w.alloc X).alloc (.cells (phC a b gr cl le).toArray 114)).cell? ⟨w.heap.size + 1, j, none⟩ = some u) := Lib.hid (fun X j u hj => by
    have := cell_of_row ((w.alloc X).alloc (.cells (phC a b gr cl le).toArray 114)) (w.alloc X).heap.size j _ _ _ (heap_alloc_new _ _)
    rw [show (w.alloc X).heap.size = w.heap.size + 1 by simp] at this
    rw [this]
    simpa using hj)
  have ht5 : 95 ≠ 114 := by decide
  have ht6 : 95 ≠ 3 := by decide
  have ht7 : 114 ≠ 3 := by decide
  rw [hlit] at HC ⊢
  go_enter Tryd.func119, Tryd.ntmps119
  go_wp2
  go_region_law (refine step_appR1 rfl _ _ 91 rfl 114 _ 5 32 Tryd.underlying91 info_phase rfl (by decide) (by decide) (g + 1) v1 n us rfl (ownr_below H1.out (by exact ⟨rfl, rfl, rfl, by (first | omega | (simp only [alloc_heap, drew_heap, Array.size_push]; omega)), fun i hi => by (simp only [alloc_heap, drew_heap, Array.getElem?_push, Array.size_push]; (repeat first | rw [if_neg (by omega)] | rw [if_pos (by omega)]))⟩)) (by omega) (phC a b gr cl le) rfl (phC_one a b gr cl le) _ (by (first | omega | (simp only [alloc_heap, drew_heap, Array.size_push]; omega))) rfl (fun j u hj => HC.out _ j u hj) ?_; intro v3 w3 h3 g3; have hT3 := ownr_grown (ownr_below HT.out (by exact ⟨rfl, rfl, rfl, by (first | omega | (simp only [alloc_heap, drew_heap, Array.size_push]; omega)), fun i hi => by (simp only [alloc_heap, drew_heap, Array.getElem?_push, Array.size_push]; (repeat first | rw [if_neg (by omega)] | rw [if_pos (by omega)]))⟩)) g3 (fun q e h' => apart_types HT.out H1.out ht5 q e h'); have h23 := ownr_grown (ownr_below H2.out (by exact ⟨rfl, rfl, rfl, by (first | omega | (simp only [alloc_heap, drew_heap, Array.size_push]; omega)), fun i hi => by (simp only [alloc_heap, drew_heap, Array.getElem?_push, Array.size_push]; (repeat first | rw [if_neg (by omega)] | rw [if_pos (by omega)]))⟩)) g3 (fun q e h' => apart_types H1.out H2.out ht7 q h' e); have hB3 := ownr_push H1.out (Nat.le_succ g) (a := w) (B := g) (by exact ⟨rfl, rfl, rfl, by (first | omega | (simp only [alloc_heap, drew_heap, Array.size_push]; omega)), fun i hi => by (simp only [alloc_heap, drew_heap, Array.getElem?_push, Array.size_push]; (repeat first | rw [if_neg (by omega)] | rw [if_pos (by omega)]))⟩) (by (first | omega | (simp only [alloc_heap, drew_heap, Array.size_push]; omega))) g3; obtain ⟨A3, d3, rfl⟩ := ownr_sliced h3; obtain ⟨x3, hx3⟩ := ownr_some hT3 (j := 13) (by decide); have hf3 := World.ownsRow.frozenAt hT3 13)
  all_goals
    have hs := World.ownsRow.stored hT3 13 (.slice A3 (n + 1) d3)
    have t4 := hs.1
    rw [(t13 hx _ _ _ _).2.2.2.1] at t4
    have r4 := ownr_grown h3 hs.2 (fun q e h' => apart_types hT3 h3 ht5 q h' e)
    have i4 := ownr_grown h23 hs.2 (fun q e h' => apart_types hT3 h23 ht6 q h' e)
    have b4 := hB3.setCell (p := ⟨g, 13, none⟩) (Nat.le_refl _) (.slice A3 (n + 1) d3)
    clear hs hT3 h23 hB3 hx3 hf3 g3 h3 c13 c14 c15
    generalize w3.setCell ⟨g, 13, none⟩ (.slice A3 (n + 1) d3) = w4 at *
    clear HC HT H1 H2
    have hgw4 : g < w4.heap.size := (ownr_block t4 _ rfl).2
    have c14 := row_cell t4 (t13 hx _ v2 (.int .i64 L) v1).2.1
    have c15 := row_cell t4 (t13 hx _ v2 (.int .i64 L) v1).2.2.1
    have T4 := Lib.hid t4
    have R4 := Lib.hid r4
    have I4 := Lib.hid i4
    have B4 := Lib.hid b4
    clear t4 r4 i4 b4
    go_wp2
    have HC2 : Hid (∀ (W : World) (j : Nat) (u : Value), [Value.int .i64 L][j]? = some u → (W.alloc (.cells #[.int .i64 L] 3)).cell? ⟨W.heap.size, j, none⟩ = some u) := Lib.hid (fun W j u hj => (cell_of_row _ _ j _ _ _ (heap_alloc_new _ _)).trans (by simpa using hj))
    go_region_law (refine step_appR1 rfl _ _ 23 rfl 3 _ 1 8 Tryd.underlying23 info_int1 rfl (by decide) (by decide) (g + 1) v2 n (zs.map (Value.int .i64)) rfl (ownr_below I4.out (by exact ⟨rfl, rfl, rfl, by (first | omega | (simp only [alloc_heap, drew_heap, Array.size_push]; omega)), fun i hi => by (simp only [alloc_heap, drew_heap, Array.getElem?_push, Array.size_push]; (repeat first | rw [if_neg (by omega)] | rw [if_pos (by omega)]))⟩)) (by omega) [.int .i64 L] rfl (fun u hu => by simp only [List.mem_cons, List.not_mem_nil, or_false] at hu; subst hu; rfl) _ (by (first | omega | (simp only [alloc_heap, drew_heap, Array.size_push]; omega))) rfl (fun j u hj => HC2.out _ j u hj) ?_; intro v5 w5 h5 g5; have hT5 := ownr_grown (ownr_below T4.out (by exact ⟨rfl, rfl, rfl, by (first | omega | (simp only [alloc_heap, drew_heap, Array.size_push]; omega)), fun i hi => by (simp only [alloc_heap, drew_heap, Array.getElem?_push, Array.size_push]; (repeat first | rw [if_neg (by omega)] | rw [if_pos (by omega)]))⟩)) g5 (fun q e h' => apart_types T4.out I4.out ht6 q e h'); have h15 := ownr_grown (ownr_below R4.out (by exact ⟨rfl, rfl, rfl, by (first | omega | (simp only [alloc_heap, drew_heap, Array.size_push]; omega)), fun i hi => by (simp only [alloc_heap, drew_heap, Array.getElem?_push, Array.size_push]; (repeat first | rw [if_neg (by omega)] | rw [if_pos (by omega)]))⟩)) g5 (fun q e h' => apart_types R4.out I4.out ht7 q e h'); have hB5 := ownr_push I4.out (Nat.le_succ g) (a := w4) (B := g) (by exact ⟨rfl, rfl, rfl, by (first | omega | (simp only [alloc_heap, drew_heap, Array.size_push]; omega)), fun i hi => by (simp only [alloc_heap, drew_heap, Array.getElem?_push, Array.size_push]; (repeat first | rw [if_neg (by omega)] | rw [if_pos (by omega)]))⟩) (by (first | omega | (simp only [alloc_heap, drew_heap, Array.size_push]; omega))) g5; obtain ⟨A5, d5, rfl⟩ := ownr_sliced h5; obtain ⟨x5, hx5⟩ := ownr_some hT5 (j := 14) (by decide); have hf5 := World.ownsRow.frozenAt hT5 14)
  all_goals
    have hs := World.ownsRow.stored hT5 14 (.slice A5 (n + 1) d5)
    have t6 := hs.1
    rw [(t13 hx _ _ _ _).2.2.2.2.1] at t6
    have r6 := ownr_grown h15 hs.2 (fun q e h' => apart_types hT5 h15 ht5 q h' e)
    have i6 := ownr_grown h5 hs.2 (fun q e h' => apart_types hT5 h5 ht6 q h' e)
    have b6 := (B4.out.trans hB5).setCell (p := ⟨g, 14, none⟩) (Nat.le_refl _) (.slice A5 (n + 1) d5)
    clear hs hT5 h15 hB5 hx5 hf5 g5 h5 c14 c15 HC2 T4 R4 I4 B4
    generalize w5.setCell ⟨g, 14, none⟩ (.slice A5 (n + 1) d5) = w6 at *
    have c15 := row_cell t6 (t13 hx _ _ (.int .i64 L) v1).2.2.1
    have f15 := World.ownsRow.frozenAt t6 15
    have hs := World.ownsRow.stored t6 15 (.int .i64 (L + s))
    have t7 := hs.1
    rw [(t13 hx _ _ _ _).2.2.2.2.2] at t7
    have T7 := Lib.hid t7
    have R7 := Lib.hid (ownr_grown r6 hs.2 (fun q e h' => apart_types t6 r6 ht5 q h' e))
    have i7 := ownr_grown i6 hs.2 (fun q e h' => apart_types t6 i6 ht6 q h' e)
    rw [show zs.map (Value.int .i64) ++ [.int .i64 L] = (zs ++ [L]).map (Value.int .i64) by simp] at i7
    have I7 := Lib.hid i7
    have B7 := Lib.hid (b6.setCell (p := ⟨g, 15, none⟩) (Nat.le_refl _) (.int .i64 (L + s)))
    clear hs t7 i7 t6 r6 i6 b6
    go_wp2
    go_end0
    exact ⟨rfl, _, _, T7.out, R7.out, I7.out, B7.out⟩
end Go.Proofs.YtcbccbefkpklkaaDoor

/- timePlan: the program. -/
namespace Go.Proofs.YtcbccbefkpklkaaDoor
open Go.RowKit
set_option linter.unusedVariables false

def z16 : List Value := [.slice none 0 0, .int .u16 0, .int .u16 0, .int .u16 0, .int .u16 0, .int .u16 0, .int .u16 0, .int .u16 0, .int .u16 0, .int .u16 0, .int .u16 0, .int .u16 0, .int .u16 0, .slice none 0 0, .slice none 0 0, .int .i64 0]
/-- what timePlan leaves. -/
def TimedAt (w' : World) (lo : Nat) (A : Option Addr) (n c : Nat) (ps : List Pth) (p : List Prt) (cs : List Value) : Prop :=
  (isPlan ps p = false → cs = z16) ∧ (isPlan ps p = true → ∃ v1 v2, cs = xcells A n c (rowSt ps n 0) ++ [v1, v2, .int .i64 (sumTo ps p p.length)] ∧
    w'.ownsRow lo 114 5 v1 p.length ((phsTo ps p p.length).flatMap Phs.cells) ∧ w'.ownsRow lo 3 1 v2 p.length ((begTo ps p p.length).map (Value.int .i64)))
theorem sumTo_ok {ps : List Pth} {p : List Prt} : ∀ k, (∀ j, j < k → okPrt ps (prAt p j) = true) → 0 ≤ sumTo ps p k ∧ sumTo ps p k ≤ 65 * k
  | 0, _ => by simp [sumTo]
  | k + 1, h => by
    have ih := sumTo_ok k fun j hj => h j (by omega)
    obtain ⟨_, _, h5, h6⟩ := okPrt_parts (h k (by omega))
    have := leastG_bound ps (prAt p k).stage
    have := clrAt_bound ps p k
    show 0 ≤ sumTo ps p k + ((prAt p k).green + clrAt ps p k) ∧ sumTo ps p k + ((prAt p k).green + clrAt ps p k) ≤ _
    omega
theorem grown_setCells {a : World} {b : Nat} : ∀ (vs : List Value) (o : Nat) (w : World), a.grownBy w (some b) → a.grownBy (w.setCells b o vs) (some b)
  | [], _, _, h => h
  | u :: vs, o, w, h => grown_setCells vs (o + 1) _ (only_setCell h o u)
theorem info_timed : (Tryd.prog.info? 95).map (·.size) = some 16 := by kernel_rfl
theorem z16_one : ∀ u ∈ z16, u.oneCell' = true := by decide
theorem stored5P {w : World} {g : Nat} {x0 x1 x2 x3 x4 a b c d e : Value} {E : TypeId} (h : w.heap[g]? = some (.cells #[x0, x1, x2, x3, x4] E)) : (((((w.setCell ⟨g, 0, none⟩ a).setCell ⟨g, 1, none⟩ b).setCell ⟨g, 2, none⟩ c).setCell ⟨g, 3, none⟩ d).setCell ⟨g, 4, none⟩ e).heap[g]? = some (.cells #[a, b, c, d, e] E) :=
  heap_setCell_same _ g 4 _ E e (heap_setCell_same _ g 3 _ E d (heap_setCell_same _ g 2 _ E c (heap_setCell_same _ g 1 _ E b (heap_setCell_same w g 0 _ E a h))))
theorem below5P {w u : World} {B g : Nat} {a b c d e : Value} (h : Below B w u) (hg : B ≤ g) : Below B w (((((u.setCell ⟨g, 0, none⟩ a).setCell ⟨g, 1, none⟩ b).setCell ⟨g, 2, none⟩ c).setCell ⟨g, 3, none⟩ d).setCell ⟨g, 4, none⟩ e) :=
  ((((h.setCell (p := ⟨g, 0, none⟩) hg a).setCell (p := ⟨g, 1, none⟩) hg b).setCell (p := ⟨g, 2, none⟩) hg c).setCell (p := ⟨g, 3, none⟩) hg d).setCell (p := ⟨g, 4, none⟩) hg e
set_option maxHeartbeats 4000000 in
set_option maxRecDepth 100000 in
theorem impl_timePlan_no (A : Option Addr) (n c B : Nat) (ps : List Pth) (A2 : Option Addr) (n2 c2 B2 : Nat) (p : List Prt) (w : World) (h : PthsAt w B A n ps) (hB : B ≤ w.heap.size) (hn : n ≤ 4294967296) (h2 : PrtsAt w B2 A2 n2 p) (hB2 : B2 ≤ w.heap.size) (hn2 : n2 ≤ 1048576) (ha : arePs ps = false) :
    Calls Tryd.prog 70 #[.slice A n c, .slice A2 n2 c2] w fun e w' => ∃ cs, e = .returned (.tuple #[.agg cs.toArray, .bool (isPlan ps p)]) ∧ TimedAt w' w.heap.size A n c ps p cs ∧ Below w.heap.size w w' := by
  have hl2 := h2.1
  have HPN := Lib.hid (plan_off (p := p) ha)
  have HC := Lib.hid (fun x (hx : Below w.heap.size w x) => impl_crossingOf_no A n c B ps x (h.below (hx.mono hB)) (Nat.le_trans hB hx.size) hn ha)
  have hxz : (xcells none 0 0 fun _ => 0).toArray = #[.slice none 0 0, .int .u16 0, .int .u16 0, .int .u16 0, .int .u16 0, .int .u16 0, .int .u16 0, .int .u16 0, .int .u16 0, .int .u16 0, .int .u16 0, .int .u16 0, .int .u16 0] := rfl
  rw [hxz] at HC
  have hb0 : Below w.heap.size w (w.alloc (.cells z16.toArray 95)) := (Below.refl _ _).alloc (Nat.le_refl _) _
  have HC0 := Lib.hid (HC.out _ hb0)
  have hz : z16.toArray = #[.slice none 0 0, .int .u16 0, .int .u16 0, .int .u16 0, .int .u16 0, .int .u16 0, .int .u16 0, .int .u16 0, .int .u16 0, .int .u16 0, .int .u16 0, .int .u16 0, .int .u16 0, .slice none 0 0, .slice none 0 0, .int .i64 0] := rfl
  rw [hz] at HC0 hb0
  clear h h2 HC hxz
  go_enter Tryd.func70, Tryd.ntmps70
  go_wp2_with fail
  refine HC0.out.mono ?_
  rintro e w1 ⟨rfl, hb⟩
  have hRz := (hb.block w.heap.size (by simp)).trans (heap_alloc_new w (.cells #[.slice none 0 0, .int .u16 0, .int .u16 0, .int .u16 0, .int .u16 0, .int .u16 0, .int .u16 0, .int .u16 0, .int .u16 0, .int .u16 0, .int .u16 0, .int .u16 0, .int .u16 0, .slice none 0 0, .slice none 0 0, .int .i64 0] 95))
  have hlt1 : w.heap.size < w1.heap.size := by have := hb.size; simp at this; omega
  have hth : ∀ o : Obj, (w1.alloc o).there w.heap.size 0 16 := fun o => there_block ((Below.heap_alloc w1 o _ hlt1).trans hRz) 16 rfl
  have HTH := Lib.hid hth
  have HB1 := Lib.hid (hb0.trans (hb.mono hb0.size))
  clear hth hb hRz hb0 HC0
  go_wp2_with ((with_reducible show wpList _ _ _ _ _ _); refine wpList_store_mid rfl 95 _ _ rfl w.heap.size 0 z16.toArray rfl rfl (HTH.out _) info_timed (all_oneCell_toArray z16_one) ?_)
  refine bodyPost_ret (v := .tuple #[.agg z16.toArray, .bool false]) (by
        have hload := fun o => run_loadVar_mid (P := Tryd.prog) ((w1.alloc o).setCells w.heap.size 0 z16) w.heap.size 0 95 z16 _ (World.rangeAt_setCells_same _ _ _ _ (HTH.out o)) Tryd.underlying95 rfl info_timed
        rw [results_cell_tmp rfl]
        simp [asAddr, hload, Result.andThen]) rfl ⟨z16, by rw [HPN.out], ⟨fun _ => rfl, fun hh => by rw [HPN.out] at hh; cases hh⟩, ?_⟩
  exact below_setCells _ (Nat.le_refl _) _ _ _ (HB1.out.alloc HB1.out.size _)
set_option maxHeartbeats 40000000 in
set_option maxRecDepth 100000 in
theorem impl_timePlan_yes (A : Option Addr) (n c B : Nat) (ps : List Pth) (A2 : Option Addr) (n2 c2 B2 : Nat) (p : List Prt) (w : World) (h : PthsAt w B A n ps) (hB : B ≤ w.heap.size) (hn : n ≤ c ∧ c ≤ maxLen) (h2 : PrtsAt w B2 A2 n2 p) (hB2 : B2 ≤ w.heap.size) (hn2 : n2 ≤ 1048576) (hm : ∀ j, j < n2 → (prAt p j).stage.length ≤ 1048576) (ha : arePs ps = true) (hw : Brus w) (ht : Clrs w) :
    Calls Tryd.prog 70 #[.slice A n c, .slice A2 n2 c2] w fun e w' => ∃ cs, e = .returned (.tuple #[.agg cs.toArray, .bool (isPlan ps p)]) ∧ TimedAt w' w.heap.size A n c ps p cs ∧ Below w.heap.size w w' := by
  have hl := h.1
  have hl2 := h2.1
  subst hl
  have h12 := arePs_len12 ha
  have HP := Lib.hid h
  have H2 := Lib.hid h2
  have HW := Lib.hid hw
  have HT := Lib.hid ht
  have HA := Lib.hid ha
  have HM := Lib.hid hm
  have hln : (xcells A ps.length c (rowSt ps ps.length 0)).length = 13 := xcells_length _ _ _ _
  have hinf : (Tryd.prog.info? 79).map (·.size) = some (xcells A ps.length c (rowSt ps ps.length 0)).length := by rw [hln]; exact info_cross
  have HCL := Lib.hid (cross_lit A ps.length c (rowSt ps ps.length 0))
  have HSI := Lib.hid (fun x (hx : Below w.heap.size w x) => impl_stagesIn A2 n2 c2 B2 p x (h2.below hB2 hx) (Nat.le_trans hB2 hx.size) hn2)
  have HSO := Lib.hid (fun A4 c4 x (hx : Below w.heap.size w x) hss hxw => impl_stagesOf A ps.length c B ps A4 n2 c4 x.heap.size (stgsOf p) x (h.below (hx.mono hB)) (Nat.le_trans hB hx.size) ha hss (Nat.le_refl _) (by omega) (fun j hj => by rw [stgsOf_at (by omega)]; have := hm j hj; omega) hxw)
  have hb0 : Below w.heap.size w (w.alloc (.cells #[.slice none 0 0, .int .u16 0, .int .u16 0, .int .u16 0, .int .u16 0, .int .u16 0, .int .u16 0, .int .u16 0, .int .u16 0, .int .u16 0, .int .u16 0, .int .u16 0, .int .u16 0, .slice none 0 0, .slice none 0 0, .int .i64 0] 95)) := (Below.refl _ _).alloc (Nat.le_refl _) _
  have HC0 := Lib.hid (impl_crossingOf A ps.length c B ps _ (h.below (hb0.mono hB)) (Nat.le_trans hB hb0.size) hn ha)
  generalize hxs : (xcells A ps.length c (rowSt ps ps.length 0)) = xs at *
  generalize hfs : rowSt ps ps.length 0 = f at *
  have HXS := Lib.hid hxs
  have HFS := Lib.hid hfs
  clear h hw ht hm ha h2 hxs hfs
  go_enter Tryd.func70, Tryd.ntmps70
  go_wp2_with fail
  refine HC0.out.mono ?_
  rw [HCL.out]
  rintro e w1 ⟨rfl, hb⟩
  have hRz := (hb.block w.heap.size (by simp)).trans (heap_alloc_new w (.cells #[.slice none 0 0, .int .u16 0, .int .u16 0, .int .u16 0, .int .u16 0, .int .u16 0, .int .u16 0, .int .u16 0, .int .u16 0, .int .u16 0, .int .u16 0, .int .u16 0, .int .u16 0, .slice none 0 0, .slice none 0 0, .int .i64 0] 95))
  have hlt1 : w.heap.size < w1.heap.size := by have := hb.size; simp at this; omega
  have hX := heap_alloc_new w1 (.cells xs.toArray 79)
  have hB1 : Below w.heap.size w (w1.alloc (.cells xs.toArray 79)) := (hb0.trans (hb.mono hb0.size)).alloc (by omega) _
  have hs2 : (w1.alloc (.cells xs.toArray 79)).heap.size = w1.heap.size + 1 := by simp
  have hRz2 := (Below.heap_alloc w1 (.cells xs.toArray 79) _ hlt1).trans hRz
  obtain ⟨w2, hw2⟩ : ∃ w2, w2 = w1.alloc (.cells xs.toArray 79) := ⟨_, rfl⟩
  rw [← hw2] at hX hB1 hs2 hRz2
  rw [HCL.out] at hw2
  clear hb hRz hb0 HC0
  have HRZ := Lib.hid hRz2
  have HB1 := Lib.hid hB1
  have HX := Lib.hid hX
  clear hRz2 hB1 hX
  go_wp2_with fail
  rw [← hw2]
  refine (impl_InRange _ _ _ _).mono ?_
  cases hin : inB (n2 : Int) 1 6
  · have HPN : Hid (isPlan ps p = false) := Lib.hid (isPlan_len (by rw [hl2]; exact hin))
    have hth : w2.there w.heap.size 0 16 := there_block HRZ.out 16 rfl
    rintro e w3 ⟨rfl, rfl⟩
    clear hin hw2
    go_wp2_with ((with_reducible show wpList _ _ _ _ _ _); refine wpList_store_mid rfl 95 _ _ rfl w.heap.size 0 z16.toArray rfl rfl hth info_timed (all_oneCell_toArray z16_one) ?_)
    refine bodyPost_ret (v := .tuple #[.agg z16.toArray, .bool false]) (by
        have hload := run_loadVar_mid (P := Tryd.prog) (w2.setCells w.heap.size 0 z16) w.heap.size 0 95 z16 _ (World.rangeAt_setCells_same _ _ _ _ hth) Tryd.underlying95 rfl info_timed
        rw [results_cell_tmp rfl]
        simp [asAddr, hload, Result.andThen]) rfl ⟨z16, by rw [HPN.out], ⟨fun _ => rfl, fun hh => by rw [HPN.out] at hh; cases hh⟩, ?_⟩
    exact below_setCells _ (Nat.le_refl _) _ _ _ HB1.out
  rintro e w3 ⟨rfl, rfl⟩
  clear hw2
  have hin6 := inB_t hin
  have HIN := Lib.hid hin
  clear hin
  have hlt2 : w1.heap.size < w2.heap.size := by omega
  have hmx : Tryd.prog.follows .mixedOrders = true := by kernel_rfl
  have hR2 : w2.rangeAt w1.heap.size 0 xs := range_block HX.out
  have HIW := Lib.hid (HSI.out w2.drew (below_drewD HB1.out))
  clear HSI
  go_wp2
  refine wp_region_held_drew (S := fun W' => W'.rangeAt w1.heap.size 0 xs) hmx hR2 (fun hH => ?_)
  refine wpAnyH_take (i := 0) (v := .agg xs.toArray) rfl (by kernel_rfl) (by kernel_rfl) (by kernel_rfl) (fun _ _ _ h => h) (yieldsIf_load_mid (by rfl) 79 _ rfl w1.heap.size 0 rfl xs _ (fun _ h => h) Tryd.underlying79 rfl hinf) hH ?_
  try simp only [Act.put, List.setIfInBounds_toArray, List.set_cons_zero, List.set_cons_succ]
  refine wpAnyH_take (i := 1) (v := .slice A2 n2 c2) rfl (by kernel_rfl) (by kernel_rfl) (by kernel_rfl) (fun _ _ _ h => h) (Or.inl ⟨by rfl, by intro w hSw; go_simp⟩) hH ?_
  try simp only [Act.put, List.setIfInBounds_toArray, List.set_cons_zero, List.set_cons_succ]
  refine wpAnyH_ready (rs := [2]) (by decide +kernel) (by simp) (AllReadyH.cons rfl (fun K hK => ?_) AllReadyH.nil)
  go_simp
  refine HIW.out.mono ?_
  rintro e w3 ⟨A4, c4, rfl, hss, hb3⟩
  go_wp2_with fail
  have hH3 : w3.rangeAt w1.heap.size 0 xs := cells_belowD hb3 hlt2 hH
  have HB3 := Lib.hid ((below_drewD HB1.out).trans (hb3.mono HB1.out.size))
  have HSW := Lib.hid (HSO.out A4 c4 w3 HB3.out hss (HW.out.below HB3.out (Nat.le_refl _)))
  have HRZ3 := Lib.hid ((hb3.block w.heap.size (by show w.heap.size < w2.heap.size; omega)).trans HRZ.out)
  have HX3 := Lib.hid ((hb3.block w1.heap.size hlt2).trans HX.out)
  have hlt3 : w1.heap.size < w3.heap.size := Nat.lt_of_lt_of_le hlt2 hb3.size
  refine hK.out _ _ hH3 (fun _ => ?_)
  clear hK K hb3 hss HIW HSO hR2
  try simp only [Act.put, List.setIfInBounds_toArray, List.set_cons_zero, List.set_cons_succ]
  refine wpAnyH_ready (rs := [3]) (by decide +kernel) (by simp) (AllReadyH.cons rfl (fun K hK => ?_) AllReadyH.nil)
  go_simp
  refine HSW.out.mono ?_
  rintro e w4 ⟨v, rfl, hv, hb4⟩
  go_wp2_with fail
  have hH4 : w4.rangeAt w1.heap.size 0 xs := cells_belowD hb4 hlt3 hH3
  have HB4 := Lib.hid (HB3.out.trans (hb4.mono HB3.out.size))
  have HRZ4 := Lib.hid ((hb4.block w.heap.size (by omega)).trans HRZ3.out)
  have HX4 := Lib.hid ((hb4.block w1.heap.size hlt3).trans HX3.out)
  have hlt4 : w1.heap.size < w4.heap.size := Nat.lt_of_lt_of_le hlt3 hb4.size
  have hsz4 := hb4.size
  have HV := Lib.hid hv
  refine hK.out _ _ hH4 (fun _ => ?_)
  clear hK K hb4 hv HSW HRZ HX HRZ3 HX3 hH3 hH
  try simp only [Act.put, List.setIfInBounds_toArray, List.set_cons_zero, List.set_cons_succ]
  generalize hsb : stsB ps (stgsOf p) = sb at *
  refine wpAnyH_take (i := 4) (v := .tuple #[v, .bool sb]) rfl (by kernel_rfl) (by kernel_rfl) (by kernel_rfl) (fun _ _ _ h => h) (Or.inl ⟨by rfl, by intro w hSw; go_simp⟩) hH4 ?_
  try simp only [Act.put, List.setIfInBounds_toArray, List.set_cons_zero, List.set_cons_succ]
  refine wpAnyH_take (i := 5) (v := v) rfl (by kernel_rfl) (by kernel_rfl) (by kernel_rfl) (fun _ _ _ h => h) (Or.inl ⟨by rfl, by intro w hSw; go_simp⟩) hH4 ?_
  try simp only [Act.put, List.setIfInBounds_toArray, List.set_cons_zero, List.set_cons_succ]
  refine wpAnyH_take (i := 6) (v := .bool sb) rfl (by kernel_rfl) (by kernel_rfl) (by kernel_rfl) (fun _ _ _ h => h) (Or.inl ⟨by rfl, by intro w hSw; go_simp⟩) hH4 ?_
  try simp only [Act.put, List.setIfInBounds_toArray, List.set_cons_zero, List.set_cons_succ]
  refine wpAnyH_ready (rs := [7]) (by decide +kernel) (by simp) (AllReadyH.cons rfl (fun K hK => ?_) AllReadyH.nil)
  go_simp
  refine hK.out _ _ hH4 (fun _ => ?_)
  clear hK K
  try simp only [Act.put, List.setIfInBounds_toArray, List.set_cons_zero, List.set_cons_succ]
  refine wpAnyH_ready (rs := [8]) (by decide +kernel) (by simp) (AllReadyH.cons rfl (fun K hK => ?_) AllReadyH.nil)
  go_simp
  refine hK.out _ _ hH4 (fun _ => ?_)
  clear hK K
  try simp only [Act.put, List.setIfInBounds_toArray, List.set_cons_zero, List.set_cons_succ]
  refine wpAnyH_done (by decide +kernel) ?_ _
  cases sb
  · have HPN : Hid (isPlan ps p = false) := Lib.hid (plan_tog HA.out hsb)
    have hth : w4.there w.heap.size 0 16 := there_block HRZ4.out 16 rfl
    clear hsb
    go_wp2_with ((with_reducible show wpList _ _ _ _ _ _); refine wpList_store_mid rfl 95 _ _ rfl w.heap.size 0 z16.toArray rfl rfl hth info_timed (all_oneCell_toArray z16_one) ?_)
    refine bodyPost_ret (v := .tuple #[.agg z16.toArray, .bool false]) (by
        have hload := run_loadVar_mid (P := Tryd.prog) (w4.setCells w.heap.size 0 z16) w.heap.size 0 95 z16 _ (World.rangeAt_setCells_same _ _ _ _ hth) Tryd.underlying95 rfl info_timed
        rw [results_cell_tmp rfl]
        simp [asAddr, hload, Result.andThen]) rfl ⟨z16, by rw [HPN.out], ⟨fun _ => rfl, fun hh => by rw [HPN.out] at hh; cases hh⟩, ?_⟩
    exact below_setCells _ (Nat.le_refl _) _ _ _ HB4.out
  obtain ⟨g, rfl, hown⟩ := HV.out rfl
  have hints := hown.ints
  have hga := hown.block g rfl
  have HOWN := Lib.hid hown
  have HIC0 := impl_isCovered A ps.length c ps rfl f h12 (some ⟨g, 0, none⟩) n2 n2 w4.heap.size (stgsOf p) w4 hints (Nat.le_refl _) (by omega)
  rw [HXS.out, HCL.out] at HIC0
  have hcv : coversP ps (stgsOf p) = decide (orM ((stgsOf p).map (maskL ps)) = 2 ^ ps.length - 1) := covers_masks HA.out ((stsB_tog HA.out).1 hsb)
  rw [← hcv] at HIC0
  have HIC := Lib.hid HIC0
  have HSB := Lib.hid hsb
  have hxl : xs = [.slice A ps.length c, .int .u16 (f 0 : Nat), .int .u16 (f 1 : Nat), .int .u16 (f 2 : Nat), .int .u16 (f 3 : Nat), .int .u16 (f 4 : Nat), .int .u16 (f 5 : Nat), .int .u16 (f 6 : Nat), .int .u16 (f 7 : Nat), .int .u16 (f 8 : Nat), .int .u16 (f 9 : Nat), .int .u16 (f 10 : Nat), .int .u16 (f 11 : Nat)] := by have := congrArg Array.toList HCL.out; simpa using this
  have d0 : w4.cell? ⟨w1.heap.size, 0, none⟩ = some (.slice A ps.length c) := by simpa using hH4 0 _ (by rw [hxl]; rfl)
  have d1 : w4.cell? ⟨w1.heap.size, 1, none⟩ = some (.int .u16 (f 0 : Nat)) := by simpa using hH4 1 _ (by rw [hxl]; rfl)
  have d2 : w4.cell? ⟨w1.heap.size, 2, none⟩ = some (.int .u16 (f 1 : Nat)) := by simpa using hH4 2 _ (by rw [hxl]; rfl)
  have d3 : w4.cell? ⟨w1.heap.size, 3, none⟩ = some (.int .u16 (f 2 : Nat)) := by simpa using hH4 3 _ (by rw [hxl]; rfl)
  have d4 : w4.cell? ⟨w1.heap.size, 4, none⟩ = some (.int .u16 (f 3 : Nat)) := by simpa using hH4 4 _ (by rw [hxl]; rfl)
  have d5 : w4.cell? ⟨w1.heap.size, 5, none⟩ = some (.int .u16 (f 4 : Nat)) := by simpa using hH4 5 _ (by rw [hxl]; rfl)
  have d6 : w4.cell? ⟨w1.heap.size, 6, none⟩ = some (.int .u16 (f 5 : Nat)) := by simpa using hH4 6 _ (by rw [hxl]; rfl)
  have d7 : w4.cell? ⟨w1.heap.size, 7, none⟩ = some (.int .u16 (f 6 : Nat)) := by simpa using hH4 7 _ (by rw [hxl]; rfl)
  have d8 : w4.cell? ⟨w1.heap.size, 8, none⟩ = some (.int .u16 (f 7 : Nat)) := by simpa using hH4 8 _ (by rw [hxl]; rfl)
  have d9 : w4.cell? ⟨w1.heap.size, 9, none⟩ = some (.int .u16 (f 8 : Nat)) := by simpa using hH4 9 _ (by rw [hxl]; rfl)
  have d10 : w4.cell? ⟨w1.heap.size, 10, none⟩ = some (.int .u16 (f 9 : Nat)) := by simpa using hH4 10 _ (by rw [hxl]; rfl)
  have d11 : w4.cell? ⟨w1.heap.size, 11, none⟩ = some (.int .u16 (f 10 : Nat)) := by simpa using hH4 11 _ (by rw [hxl]; rfl)
  have d12 : w4.cell? ⟨w1.heap.size, 12, none⟩ = some (.int .u16 (f 11 : Nat)) := by simpa using hH4 12 _ (by rw [hxl]; rfl)
  clear HIC0 hcv hints hown HV hsb hxl
  go_wp2_with fail
  refine HIC.out.mono ?_
  cases hcp : coversP ps (stgsOf p)
  · rintro e w5 ⟨rfl, hb5⟩
    have HPN : Hid (isPlan ps p = false) := Lib.hid (plan_cov hcp)
    have hth : w5.there w.heap.size 0 16 := there_block ((hb5.block w.heap.size (by omega)).trans HRZ4.out) 16 rfl
    have HB5 := Lib.hid (HB4.out.trans (hb5.mono HB4.out.size))
    clear hcp hb5 d0 d1 d2 d3 d4 d5 d6 d7 d8 d9 d10 d11 d12
    go_wp2_with ((with_reducible show wpList _ _ _ _ _ _); refine wpList_store_mid rfl 95 _ _ rfl w.heap.size 0 z16.toArray rfl rfl hth info_timed (all_oneCell_toArray z16_one) ?_)
    refine bodyPost_ret (v := .tuple #[.agg z16.toArray, .bool false]) (by
        have hload := run_loadVar_mid (P := Tryd.prog) (w5.setCells w.heap.size 0 z16) w.heap.size 0 95 z16 _ (World.rangeAt_setCells_same _ _ _ _ hth) Tryd.underlying95 rfl info_timed
        rw [results_cell_tmp rfl]
        simp [asAddr, hload, Result.andThen]) rfl ⟨z16, by rw [HPN.out], ⟨fun _ => rfl, fun hh => by rw [HPN.out] at hh; cases hh⟩, ?_⟩
    exact below_setCells _ (Nat.le_refl _) _ _ _ HB5.out
  rintro e w5 ⟨rfl, hb5⟩
  have HCP := Lib.hid hcp
  have e0 := (hb5.cell (p := ⟨w1.heap.size, 0, none⟩) hlt4).trans d0
  have e1 := (hb5.cell (p := ⟨w1.heap.size, 1, none⟩) hlt4).trans d1
  have e2 := (hb5.cell (p := ⟨w1.heap.size, 2, none⟩) hlt4).trans d2
  have e3 := (hb5.cell (p := ⟨w1.heap.size, 3, none⟩) hlt4).trans d3
  have e4 := (hb5.cell (p := ⟨w1.heap.size, 4, none⟩) hlt4).trans d4
  have e5 := (hb5.cell (p := ⟨w1.heap.size, 5, none⟩) hlt4).trans d5
  have e6 := (hb5.cell (p := ⟨w1.heap.size, 6, none⟩) hlt4).trans d6
  have e7 := (hb5.cell (p := ⟨w1.heap.size, 7, none⟩) hlt4).trans d7
  have e8 := (hb5.cell (p := ⟨w1.heap.size, 8, none⟩) hlt4).trans d8
  have e9 := (hb5.cell (p := ⟨w1.heap.size, 9, none⟩) hlt4).trans d9
  have e10 := (hb5.cell (p := ⟨w1.heap.size, 10, none⟩) hlt4).trans d10
  have e11 := (hb5.cell (p := ⟨w1.heap.size, 11, none⟩) hlt4).trans d11
  have e12 := (hb5.cell (p := ⟨w1.heap.size, 12, none⟩) hlt4).trans d12
  have hlt5 : w1.heap.size < w5.heap.size := Nat.lt_of_lt_of_le hlt4 hb5.size
  have HB5 := Lib.hid (HB4.out.trans (hb5.mono HB4.out.size))
  have HRZ5 := Lib.hid ((hb5.block w.heap.size (by omega)).trans HRZ4.out)
  have HX5 := Lib.hid ((hb5.block w1.heap.size hlt4).trans HX4.out)
  have HOW5 := Lib.hid (HOWN.out.below hb5)
  have hg5 : g < w5.heap.size := Nat.lt_of_lt_of_le hga.2 hb5.size
  have hxl : xs = [.slice A ps.length c, .int .u16 (f 0 : Nat), .int .u16 (f 1 : Nat), .int .u16 (f 2 : Nat), .int .u16 (f 3 : Nat), .int .u16 (f 4 : Nat), .int .u16 (f 5 : Nat), .int .u16 (f 6 : Nat), .int .u16 (f 7 : Nat), .int .u16 (f 8 : Nat), .int .u16 (f 9 : Nat), .int .u16 (f 10 : Nat), .int .u16 (f 11 : Nat)] := by have := congrArg Array.toList HCL.out; simpa using this
  have hT0 : (w5.alloc (.cells #[.slice A ps.length c, .int .u16 (f 0 : Nat), .int .u16 (f 1 : Nat), .int .u16 (f 2 : Nat), .int .u16 (f 3 : Nat), .int .u16 (f 4 : Nat), .int .u16 (f 5 : Nat), .int .u16 (f 6 : Nat), .int .u16 (f 7 : Nat), .int .u16 (f 8 : Nat), .int .u16 (f 9 : Nat), .int .u16 (f 10 : Nat), .int .u16 (f 11 : Nat), .slice none 0 0, .slice none 0 0, .int .i64 0] 95)).ownsRow w5.heap.size 95 1 (.slice (some ⟨w5.heap.size, 0, none⟩) 16 16) 16 (xs ++ [.slice none 0 0, .slice none 0 0, .int .i64 0]) := by
    rw [hxl]
    exact World.ownsRow_lit (base := w5.heap.size) (e := 95) (size := 1) w5 #[.slice A ps.length c, .int .u16 (f 0 : Nat), .int .u16 (f 1 : Nat), .int .u16 (f 2 : Nat), .int .u16 (f 3 : Nat), .int .u16 (f 4 : Nat), .int .u16 (f 5 : Nat), .int .u16 (f 6 : Nat), .int .u16 (f 7 : Nat), .int .u16 (f 8 : Nat), .int .u16 (f 9 : Nat), .int .u16 (f 10 : Nat), .int .u16 (f 11 : Nat), .slice none 0 0, .slice none 0 0, .int .i64 0] 16 (Nat.le_refl _) (by decide) rfl
  have HT0 := Lib.hid hT0
  have HBT : Hid (Below w5.heap.size w5 (w5.alloc (.cells #[.slice A ps.length c, .int .u16 (f 0 : Nat), .int .u16 (f 1 : Nat), .int .u16 (f 2 : Nat), .int .u16 (f 3 : Nat), .int .u16 (f 4 : Nat), .int .u16 (f 5 : Nat), .int .u16 (f 6 : Nat), .int .u16 (f 7 : Nat), .int .u16 (f 8 : Nat), .int .u16 (f 9 : Nat), .int .u16 (f 10 : Nat), .int .u16 (f 11 : Nat), .slice none 0 0, .slice none 0 0, .int .i64 0] 95))) := Lib.hid ((Below.refl _ _).alloc (Nat.le_refl _) _)
  clear hcp d0 d1 d2 d3 d4 d5 d6 d7 d8 d9 d10 d11 d12 hb5 hT0 HRZ4 HX4 HOWN hH4 hxl hga
  go_wp2
  clear e0 e1 e2 e3 e4 e5 e6 e7 e8 e9 e10 e11 e12
  go_loopw [48] (fun i wr => ∃ (k : Nat) (v1 v2 : Value), k ≤ n2 ∧ i = .int .i64 k ∧ wr.ownsRow w5.heap.size 95 1 (.slice (some ⟨w5.heap.size, 0, none⟩) 16 16) 16 (xs ++ [v1, v2, .int .i64 (sumTo ps p k)]) ∧
      wr.ownsRow (w5.heap.size + 1) 114 5 v1 k ((phsTo ps p k).flatMap Phs.cells) ∧ wr.ownsRow (w5.heap.size + 1) 3 1 v2 k ((begTo ps p k).map (Value.int .i64)) ∧ (∀ j, j < k → okPrt ps (prAt p j) = true) ∧ Below w5.heap.size w5 wr) (fun i _ => n2 - (intOf i).toNat)
  case atStart => exact ⟨0, _, _, Nat.zero_le _, rfl, HT0.out, ownr_nil _ _ _ _, ownr_nil _ _ _ _, fun j hj => absurd hj (by omega), HBT.out⟩
  case round =>
    clear HT0 HBT
    obtain ⟨k, v1, v2, hk, rfl, ht16, hph, hbg, hgo, hbl⟩ := hrel
    have HT16 := Lib.hid ht16
    have HPH := Lib.hid hph
    have HBG := Lib.hid hbg
    have HG := Lib.hid hgo
    have HBL := Lib.hid hbl
    have hsz := hbl.size
    clear ht16 hph hbg hgo hbl
    by_cases hlt : k < n2
    · obtain ⟨ad, A', m, c', rfl, hab, hq, hi, hmc, hnil⟩ := H2.out.at hlt
      have hnx : nextJ p k < n2 := by have := nextJ_lt (p := p) (j := k) (by omega); omega
      have e1 : IntKind.i64.wrap ((k : Int) + 1) = (k : Int) + 1 := by rw [IntKind.wrap_i64]; omega
      have e2 : ((k : Int) + 1).tmod (n2 : Int) = ((nextJ p k : Nat) : Int) := by
        unfold nextJ
        rw [hl2, Int.tmod_eq_emod_of_nonneg (by omega), Int.natCast_emod, Int.natCast_add]
        rfl
      have htog := tog_at HA.out HSB.out (show k < p.length by omega)
      have htogN := tog_at HA.out HSB.out (show nextJ p k < p.length by omega)
      have HOK := Lib.hid (okPrt_mask (q := prAt p k) htog)
      have HNO := Lib.hid (fun hh => isPlan_no (ps := ps) (p := p) (j := k) (by omega) hh)
      have HCK : Hid (clrS ps f (maskL ps (prAt p k).stage) (maskL ps (prAt p (nextJ p k)).stage) = clrAt ps p k) := Lib.hid (by rw [← HFS.out]; exact clr_mask2 htog htogN)
      have HMA := Lib.hid (maskL_lt ps (prAt p k).stage h12)
      have HMB := Lib.hid (maskL_lt ps (prAt p (nextJ p k)).stage h12)
      have hBW := HB5.out.trans (HBL.out.mono HB5.out.size)
      obtain ⟨c0, c1⟩ := hq.below hBW (by omega)
      have hil : (mskI ps (stgsOf p)).length = n2 := by rw [mskI_len, stgsOf_len]; exact hl2
      have mk : wr.cell? ⟨g, k, none⟩ = some (.int .u16 (maskL ps (prAt p k).stage : Nat)) := by
        rw [HBL.out.cell (p := ⟨g, k, none⟩) hg5, HOW5.out.cell k (by omega), mskI_at (by rw [stgsOf_len]; omega), stgsOf_at (by omega)]
      have mn : wr.cell? ⟨g, nextJ p k, none⟩ = some (.int .u16 (maskL ps (prAt p (nextJ p k)).stage : Nat)) := by
        rw [HBL.out.cell (p := ⟨g, nextJ p k, none⟩) hg5, HOW5.out.cell (nextJ p k) (by omega), mskI_at (by rw [stgsOf_len]; omega), stgsOf_at (by omega)]
      have HI := Lib.hid hi
      have hm1 := HM.out k hlt
      have hlz := hi.1
      have HPS := Lib.hid (phs_push ps p k)
      have HLA : Hid (longAt ps p k = (prAt p k).green + clrAt ps p k) := Lib.hid rfl
      generalize (prAt p k).green = gr at *
      generalize (prAt p k).stage = za at *
      generalize maskL ps (prAt p (nextJ p k)).stage = mb at *
      generalize maskL ps za = ma at *
      generalize nextJ p k = nx at *
      have hbA := (Below.refl wr.heap.size wr).alloc (Nat.le_refl _) (.cells #[.slice A' m c', .int .i64 gr] 89)
      have mn' := (hbA.cell (p := ⟨g, nx, none⟩) (by show g < _; omega)).trans mn
      have mk' := (hbA.cell (p := ⟨g, k, none⟩) (by show g < _; omega)).trans mk
      have hgA := heap_alloc_new wr (.cells #[.slice A' m c', .int .i64 gr] 89)
      have p0 : (wr.alloc (.cells #[.slice A' m c', .int .i64 gr] 89)).cell? ⟨wr.heap.size, 0, none⟩ = some (.slice A' m c') := (cell_of_row _ _ 0 _ _ _ hgA).trans rfl
      have p1 : (wr.alloc (.cells #[.slice A' m c', .int .i64 gr] 89)).cell? ⟨wr.heap.size, 1, none⟩ = some (.int .i64 gr) := (cell_of_row _ _ 1 _ _ _ hgA).trans rfl
      have r6 := range_block ((hbA.block w1.heap.size (by omega)).trans ((HBL.out.block w1.heap.size hlt5).trans HX5.out))
      have t6 := Lib.hid (ownr_below HT16.out hbA)
      have f6 := Lib.hid (ownr_below HPH.out hbA)
      have s6 := Lib.hid (ownr_below HBG.out hbA)
      have b6 := Lib.hid (HBL.out.trans (hbA.mono hsz))
      have hs6 : wr.heap.size < (wr.alloc (.cells #[.slice A' m c', .int .i64 gr] 89)).heap.size := by simp
      have i1 : (0 : Int) ≤ (k : Int) := by omega
      have i2 : (k : Int) < (n2 : Int) := by omega
      have i3 : (0 : Int) ≤ (nx : Int) := by omega
      have i4 : (nx : Int) < (n2 : Int) := by omega
      have z1 : ¬ n2 = 0 := by omega
      have z2 : ¬ (n2 : Int) = 0 := by omega
      clear hq hi htog htogN hil mk mn hmc hnil hbA hgA HT16 HPH HBG hBW
      go_wp2
      clear c0 c1 mn' e1 e2 i3 i4 z1 z2
      generalize hw6 : wr.alloc (.cells #[.slice A' m c', .int .i64 gr] 89) = w6 at *
      clear hw6
      have HSK : Hid (∀ W, Below w6.heap.size w6 W → W.rangeAt w1.heap.size 0 xs ∧ W.cell? ⟨g, k, none⟩ = some (.int .u16 (ma : Nat)) ∧ W.cell? ⟨wr.heap.size, 0, none⟩ = some (.slice A' m c') ∧ W.cell? ⟨wr.heap.size, 1, none⟩ = some (.int .i64 gr)) := Lib.hid (fun W hW => ⟨cells_belowD hW (by omega) r6, (hW.cell (p := ⟨g, k, none⟩) (by show g < _; omega)).trans mk', (hW.cell (p := ⟨wr.heap.size, 0, none⟩) hs6).trans p0, (hW.cell (p := ⟨wr.heap.size, 1, none⟩) hs6).trans p1⟩)
      have HW6 := Lib.hid (HB5.out.trans (b6.out.mono HB5.out.size))
      have HBX : Hid (∀ W, Below w6.heap.size w6 W → Below w.heap.size w W) := Lib.hid (fun W hW => HW6.out.trans (hW.mono HW6.out.size))
      have HCC : Hid (∀ W, Below w6.heap.size w6 W → Calls Tryd.prog 117 #[.agg xs.toArray, .int .u16 (ma : Nat), .int .u16 (mb : Nat)] W fun e w' => e = .returned (.int .i64 (clrAt ps p k)) ∧ Below W.heap.size W w') := Lib.hid (fun W hW => by
        have hb := HBX.out W hW
        have := impl_clearB A ps.length c B ps f (fun j => by rw [← HFS.out]; exact rowSt_lt _ _ _ _) ma mb HMA.out HMB.out h12 W (HP.out.below (hb.mono hB)) (Nat.le_trans hB hb.size) (HT.out.below hb (Nat.le_refl _))
        rw [HXS.out, HCK.out] at this
        exact this)
      have HLC : Hid (∀ W, Below w6.heap.size w6 W → Calls Tryd.prog 118 #[.slice A ps.length c, .slice A' m c'] W fun e w' => e = .returned (.int .i64 (leastG ps za)) ∧ Below W.heap.size W w') := Lib.hid (fun W hW => by
        have hb := HBX.out W hW
        exact impl_LeastGreen A ps.length c B ps A' m c' B2 za W (HP.out.below (hb.mono hB)) (HI.out.laid hB2 hb) (Nat.le_trans hB hb.size) (Nat.le_trans hB2 hb.size) (by omega) (by omega))
      clear mk' p0 p1 r6
      refine wp_region_held_drew (S := fun W => W.rangeAt w1.heap.size 0 xs ∧ W.cell? ⟨g, k, none⟩ = some (.int .u16 (ma : Nat)) ∧ W.cell? ⟨wr.heap.size, 0, none⟩ = some (.slice A' m c') ∧ W.cell? ⟨wr.heap.size, 1, none⟩ = some (.int .i64 gr)) hmx (HSK.out _ (below_drewD (Below.refl _ _))) (fun hH => ?_)
      refine wpAnyH_take (i := 0) (v := .slice (some ⟨g, 0, none⟩) n2 n2) rfl (by kernel_rfl) (by kernel_rfl) (by kernel_rfl) (fun _ _ _ h => h) (Or.inl ⟨by rfl, by intro w hSw; go_simp⟩) hH ?_
      try simp only [Act.put, List.setIfInBounds_toArray, List.set_cons_zero, List.set_cons_succ]
      refine wpAnyH_take (i := 1) (v := .int .i64 (k : Int)) rfl (by kernel_rfl) (by kernel_rfl) (by kernel_rfl) (fun _ _ _ h => h) (Or.inl ⟨by rfl, by intro w hSw; go_simp⟩) hH ?_
      try simp only [Act.put, List.setIfInBounds_toArray, List.set_cons_zero, List.set_cons_succ]
      refine wpAnyH_take (i := 2) (v := .pointer (some ⟨g, k, none⟩)) rfl (by kernel_rfl) (by kernel_rfl) (by kernel_rfl) (fun _ _ _ h => h) (Or.inl ⟨by rfl, by intro w hSw; go_simp⟩) hH ?_
      try simp only [Act.put, List.setIfInBounds_toArray, List.set_cons_zero, List.set_cons_succ]
      refine wpAnyH_take (i := 3) (v := .int .u16 (ma : Nat)) rfl (by kernel_rfl) (by kernel_rfl) (by kernel_rfl) (fun _ _ _ h => h) (Or.inl ⟨by rfl, by intro w hSw; have hSw2 := hSw.2.1; clear hSw; go_simp⟩) hH ?_
      try simp only [Act.put, List.setIfInBounds_toArray, List.set_cons_zero, List.set_cons_succ]
      refine wpAnyH_take (i := 4) (v := .int .u16 (mb : Nat)) rfl (by kernel_rfl) (by kernel_rfl) (by kernel_rfl) (fun _ _ _ h => h) (Or.inl ⟨by rfl, by intro w hSw; go_simp⟩) hH ?_
      try simp only [Act.put, List.setIfInBounds_toArray, List.set_cons_zero, List.set_cons_succ]
      refine wpAnyH_take (i := 5) (v := .pointer (some ⟨wr.heap.size, 1, none⟩)) rfl (by kernel_rfl) (by kernel_rfl) (by kernel_rfl) (fun _ _ _ h => h) (Or.inl ⟨by rfl, by intro w hSw; go_simp⟩) hH ?_
      try simp only [Act.put, List.setIfInBounds_toArray, List.set_cons_zero, List.set_cons_succ]
      refine wpAnyH_take (i := 6) (v := .int .i64 gr) rfl (by kernel_rfl) (by kernel_rfl) (by kernel_rfl) (fun _ _ _ h => h) (Or.inl ⟨by rfl, by intro w hSw; have hSw2 := hSw.2.2.2; clear hSw; go_simp⟩) hH ?_
      try simp only [Act.put, List.setIfInBounds_toArray, List.set_cons_zero, List.set_cons_succ]
      refine wpAnyH_take (i := 7) (v := .agg xs.toArray) rfl (by kernel_rfl) (by kernel_rfl) (by kernel_rfl) (fun _ _ _ h => h) (yieldsIf_load_mid (by rfl) 79 _ rfl w1.heap.size 0 rfl xs _ (fun _ h => h.1) Tryd.underlying79 rfl hinf) hH ?_
      try simp only [Act.put, List.setIfInBounds_toArray, List.set_cons_zero, List.set_cons_succ]
      refine wpAnyH_take (i := 8) (v := .slice (some ⟨g, 0, none⟩) n2 n2) rfl (by kernel_rfl) (by kernel_rfl) (by kernel_rfl) (fun _ _ _ h => h) (Or.inl ⟨by rfl, by intro w hSw; go_simp⟩) hH ?_
      try simp only [Act.put, List.setIfInBounds_toArray, List.set_cons_zero, List.set_cons_succ]
      refine wpAnyH_take (i := 9) (v := .int .i64 (k : Int)) rfl (by kernel_rfl) (by kernel_rfl) (by kernel_rfl) (fun _ _ _ h => h) (Or.inl ⟨by rfl, by intro w hSw; go_simp⟩) hH ?_
      try simp only [Act.put, List.setIfInBounds_toArray, List.set_cons_zero, List.set_cons_succ]
      refine wpAnyH_take (i := 10) (v := .pointer (some ⟨g, k, none⟩)) rfl (by kernel_rfl) (by kernel_rfl) (by kernel_rfl) (fun _ _ _ h => h) (Or.inl ⟨by rfl, by intro w hSw; go_simp⟩) hH ?_
      try simp only [Act.put, List.setIfInBounds_toArray, List.set_cons_zero, List.set_cons_succ]
      refine wpAnyH_take (i := 11) (v := .int .u16 (ma : Nat)) rfl (by kernel_rfl) (by kernel_rfl) (by kernel_rfl) (fun _ _ _ h => h) (Or.inl ⟨by rfl, by intro w hSw; have hSw2 := hSw.2.1; clear hSw; go_simp⟩) hH ?_
      try simp only [Act.put, List.setIfInBounds_toArray, List.set_cons_zero, List.set_cons_succ]
      refine wpAnyH_take (i := 12) (v := .int .u16 (mb : Nat)) rfl (by kernel_rfl) (by kernel_rfl) (by kernel_rfl) (fun _ _ _ h => h) (Or.inl ⟨by rfl, by intro w hSw; go_simp⟩) hH ?_
      try simp only [Act.put, List.setIfInBounds_toArray, List.set_cons_zero, List.set_cons_succ]
      refine wpAnyH_take (i := 14) (v := .slice A ps.length c) rfl (by kernel_rfl) (by kernel_rfl) (by kernel_rfl) (fun _ _ _ h => h) (Or.inl ⟨by rfl, by intro w hSw; go_simp⟩) hH ?_
      try simp only [Act.put, List.setIfInBounds_toArray, List.set_cons_zero, List.set_cons_succ]
      refine wpAnyH_take (i := 15) (v := .pointer (some ⟨wr.heap.size, 0, none⟩)) rfl (by kernel_rfl) (by kernel_rfl) (by kernel_rfl) (fun _ _ _ h => h) (Or.inl ⟨by rfl, by intro w hSw; go_simp⟩) hH ?_
      try simp only [Act.put, List.setIfInBounds_toArray, List.set_cons_zero, List.set_cons_succ]
      refine wpAnyH_take (i := 16) (v := .slice A' m c') rfl (by kernel_rfl) (by kernel_rfl) (by kernel_rfl) (fun _ _ _ h => h) (Or.inl ⟨by rfl, by intro w hSw; have hSw2 := hSw.2.2.1; clear hSw; go_simp⟩) hH ?_
      try simp only [Act.put, List.setIfInBounds_toArray, List.set_cons_zero, List.set_cons_succ]
      refine wpAnyH_ready (rs := [13, 19]) (by decide +kernel) (by simp) (AllReadyH.cons rfl (fun K hK => ?_) (AllReadyH.cons rfl (fun K hK => ?_) AllReadyH.nil))
      focus
        go_simp
        refine (HCC.out _ (below_drewD (Below.refl _ _))).mono ?_
        rintro e w7 ⟨rfl, hbc⟩
        have hbd := below_drewD (Below.refl w6.heap.size w6)
        have hb67 := hbd.trans (hbc.mono hbd.size)
        clear hbc
        go_wp2_with fail
        refine hK.out _ _ (HSK.out _ hb67) (fun hH7 => ?_)
        clear hK K
        try simp only [Act.put, List.setIfInBounds_toArray, List.set_cons_zero, List.set_cons_succ]
        refine wpAnyH_ready (rs := [17, 19]) (by decide +kernel) (by simp) (AllReadyH.cons rfl (fun K hK => ?_) (AllReadyH.cons rfl (fun K hK => ?_) AllReadyH.nil))
        focus
          go_simp
          refine (HLC.out _ hb67).mono ?_
          rintro e w8 ⟨rfl, hbc⟩
          have hb68 := hb67.trans (hbc.mono hb67.size)
          clear hbc
          go_wp2_with fail
          refine hK.out _ _ (HSK.out _ hb68) (fun hH8 => ?_)
          clear hK K
          try simp only [Act.put, List.setIfInBounds_toArray, List.set_cons_zero, List.set_cons_succ]
          refine wpAnyH_take (i := 18) (v := .agg #[.int .u16 (ma : Nat), .int .u16 (mb : Nat), .int .i64 gr, .int .i64 (clrAt ps p k), .int .i64 (leastG ps za)]) rfl (by kernel_rfl) (by kernel_rfl) (by kernel_rfl) (fun _ _ _ h => h) (Or.inl ⟨by rfl, by intro w hSw; go_simp⟩) hH8 ?_
          try simp only [Act.put, List.setIfInBounds_toArray, List.set_cons_zero, List.set_cons_succ]
          refine wpAnyH_ready (rs := [19]) (by decide +kernel) (by simp) (AllReadyH.cons rfl (fun K hK => ?_) AllReadyH.nil)
          go_simp
          have hb69 := hb68.alloc hb68.size (.cells #[.int .u16 0, .int .u16 0, .int .i64 0, .int .i64 0, .int .i64 0] 114)
          refine hK.out _ _ (HSK.out _ hb69) (fun hH9 => ?_)
          clear hK K
          try simp only [Act.put, List.setIfInBounds_toArray, List.set_cons_zero, List.set_cons_succ]
          refine wpAnyH_ready (rs := [20]) (by decide +kernel) (by simp) (AllReadyH.cons rfl (fun K hK => ?_) AllReadyH.nil)
          go_simp
          have hb6a := hb68.alloc hb68.size (.cells #[.int .u16 (ma : Nat), .int .u16 (mb : Nat), .int .i64 gr, .int .i64 (clrAt ps p k), .int .i64 (leastG ps za)] 114)
          have hga := heap_alloc_new w8 (.cells #[.int .u16 (ma : Nat), .int .u16 (mb : Nat), .int .i64 gr, .int .i64 (clrAt ps p k), .int .i64 (leastG ps za)] 114)
          have hgz := hb68.size
          refine hK.out _ _ (HSK.out _ hb6a) (fun hHa => ?_)
          clear hK K hHa hH9 hH8 hH7 hb69 hb68 hb67 hbd
          try simp only [Act.put, List.setIfInBounds_toArray, List.set_cons_zero, List.set_cons_succ]
          refine wpAnyH_done (by decide +kernel) ?_ _
          generalize w8.alloc (.cells #[.int .u16 (ma : Nat), .int .u16 (mb : Nat), .int .i64 gr, .int .i64 (clrAt ps p k), .int .i64 (leastG ps za)] 114) = w9 at *
          generalize w8.heap.size = ga at *
        rotate_left
        focus
          go_simp
          have hbz := hb67.alloc hb67.size (.cells #[.int .u16 0, .int .u16 0, .int .i64 0, .int .i64 0, .int .i64 0] 114)
          have hgz := hb67.size
          have hga : (w7.alloc (.cells #[.int .u16 0, .int .u16 0, .int .i64 0, .int .i64 0, .int .i64 0] 114)).heap[w7.heap.size]? = some (.cells #[.int .u16 0, .int .u16 0, .int .i64 0, .int .i64 0, .int .i64 0] 114) := heap_alloc_new w7 (.cells #[.int .u16 0, .int .u16 0, .int .i64 0, .int .i64 0, .int .i64 0] 114)
          have hgl : w7.heap.size < (w7.alloc (.cells #[.int .u16 0, .int .u16 0, .int .i64 0, .int .i64 0, .int .i64 0] 114)).heap.size := by simp
          refine hK.out _ _ (HSK.out _ hbz) (fun hHz => ?_)
          clear hK K
          try simp only [Act.put, List.setIfInBounds_toArray, List.set_cons_zero, List.set_cons_succ]
          generalize w7.alloc (.cells #[.int .u16 0, .int .u16 0, .int .i64 0, .int .i64 0, .int .i64 0] 114) = wz at *
          refine wpAnyH_ready (rs := [17]) (by decide +kernel) (by simp) (AllReadyH.cons rfl (fun K hK => ?_) AllReadyH.nil)
          go_simp
          refine (HLC.out _ hbz).mono ?_
          rintro e w8 ⟨rfl, hbc⟩
          have hb68 := hbz.trans (hbc.mono hbz.size)
          have hga' := (hbc.block _ hgl).trans hga
          have hgl' := Nat.lt_of_lt_of_le hgl hbc.size
          clear hga hgl
          have hga := hga'
          have hgl := hgl'
          clear hga' hgl'
          clear hbc
          go_wp2_with fail
          refine hK.out _ _ (HSK.out _ hb68) (fun hH8 => ?_)
          clear hK K
          try simp only [Act.put, List.setIfInBounds_toArray, List.set_cons_zero, List.set_cons_succ]
          clear hHz hH7
          refine wpAnyH_take (i := 18) (v := .agg #[.int .u16 (ma : Nat), .int .u16 (mb : Nat), .int .i64 gr, .int .i64 (clrAt ps p k), .int .i64 (leastG ps za)]) rfl (by kernel_rfl) (by kernel_rfl) (by kernel_rfl) (fun _ _ _ h => h) (Or.inl ⟨by rfl, by intro w hSw; go_simp⟩) hH8 ?_
          try simp only [Act.put, List.setIfInBounds_toArray, List.set_cons_zero, List.set_cons_succ]
          refine wpAnyH_ready (rs := [20]) (by decide +kernel) (by simp) (AllReadyH.cons rfl (fun K hK => ?_) AllReadyH.nil)
          have z0 : w8.cell? ⟨w7.heap.size, 0, none⟩ = some (.int .u16 0) := (cell_of_row _ _ 0 _ _ _ hga).trans rfl
          have z1 : w8.cell? ⟨w7.heap.size, 1, none⟩ = some (.int .u16 0) := (cell_of_row _ _ 1 _ _ _ hga).trans rfl
          have z2 : w8.cell? ⟨w7.heap.size, 2, none⟩ = some (.int .i64 0) := (cell_of_row _ _ 2 _ _ _ hga).trans rfl
          have z3 : w8.cell? ⟨w7.heap.size, 3, none⟩ = some (.int .i64 0) := (cell_of_row _ _ 3 _ _ _ hga).trans rfl
          have z4 : w8.cell? ⟨w7.heap.size, 4, none⟩ = some (.int .i64 0) := (cell_of_row _ _ 4 _ _ _ hga).trans rfl
          have zf : ∀ j, w8.frozen? ⟨w7.heap.size, j, none⟩ = false := fun j => frozen_of_row _ _ j _ _ hga
          go_simp
          have hgv := stored5P (a := .int .u16 (ma : Nat)) (b := .int .u16 (mb : Nat)) (c := .int .i64 gr) (d := .int .i64 (clrAt ps p k)) (e := .int .i64 (leastG ps za)) hga
          have hb6a := below5P (a := .int .u16 (ma : Nat)) (b := .int .u16 (mb : Nat)) (c := .int .i64 gr) (d := .int .i64 (clrAt ps p k)) (e := .int .i64 (leastG ps za)) hb68 hgz
          clear z0 z1 z2 z3 z4 zf hga hgl
          refine hK.out _ _ (HSK.out _ hb6a) (fun hHa => ?_)
          clear hK K hHa
          try simp only [Act.put, List.setIfInBounds_toArray, List.set_cons_zero, List.set_cons_succ]
          refine wpAnyH_done (by decide +kernel) ?_ _
          have hga := hgv
          clear hgv
          generalize (((((w8.setCell ⟨w7.heap.size, 0, none⟩ (.int .u16 (ma : Nat))).setCell ⟨w7.heap.size, 1, none⟩ (.int .u16 (mb : Nat))).setCell ⟨w7.heap.size, 2, none⟩ (.int .i64 gr)).setCell ⟨w7.heap.size, 3, none⟩ (.int .i64 (clrAt ps p k))).setCell ⟨w7.heap.size, 4, none⟩ (.int .i64 (leastG ps za))) = w9 at *
          obtain ⟨ga, hge⟩ : ∃ ga : Nat, ga = w7.heap.size := ⟨_, rfl⟩
          rw [← hge] at hga ⊢
          have hgz' : w6.heap.size ≤ ga := by omega
          clear hge hgz
          have hgz := hgz'
          clear hgz'
          clear hbz hb67 hb68 hH8 hbd
      rotate_left 2
      focus
        go_simp
        have hbz := below_drewD ((Below.refl w6.heap.size w6).alloc (Nat.le_refl _) (.cells #[.int .u16 0, .int .u16 0, .int .i64 0, .int .i64 0, .int .i64 0] 114))
        have hgz : w6.heap.size ≤ w6.heap.size := Nat.le_refl _
        have hga : (w6.alloc (.cells #[.int .u16 0, .int .u16 0, .int .i64 0, .int .i64 0, .int .i64 0] 114)).drew.heap[w6.heap.size]? = some (.cells #[.int .u16 0, .int .u16 0, .int .i64 0, .int .i64 0, .int .i64 0] 114) := heap_alloc_new w6 (.cells #[.int .u16 0, .int .u16 0, .int .i64 0, .int .i64 0, .int .i64 0] 114)
        have hgl : w6.heap.size < (w6.alloc (.cells #[.int .u16 0, .int .u16 0, .int .i64 0, .int .i64 0, .int .i64 0] 114)).drew.heap.size := by show _ < (w6.alloc (.cells #[.int .u16 0, .int .u16 0, .int .i64 0, .int .i64 0, .int .i64 0] 114)).heap.size; simp
        refine hK.out _ _ (HSK.out _ hbz) (fun hHz => ?_)
        clear hK K
        try simp only [Act.put, List.setIfInBounds_toArray, List.set_cons_zero, List.set_cons_succ]
        generalize (w6.alloc (.cells #[.int .u16 0, .int .u16 0, .int .i64 0, .int .i64 0, .int .i64 0] 114)).drew = wz at *
        refine wpAnyH_ready (rs := [13]) (by decide +kernel) (by simp) (AllReadyH.cons rfl (fun K hK => ?_) AllReadyH.nil)
        go_simp
        refine (HCC.out _ hbz).mono ?_
        rintro e w7 ⟨rfl, hbc⟩
        have hb67 := hbz.trans (hbc.mono hbz.size)
        have hga' := (hbc.block _ hgl).trans hga
        have hgl' := Nat.lt_of_lt_of_le hgl hbc.size
        clear hga hgl
        have hga := hga'
        have hgl := hgl'
        clear hga' hgl'
        clear hbc
        go_wp2_with fail
        refine hK.out _ _ (HSK.out _ hb67) (fun hH7 => ?_)
        clear hK K
        try simp only [Act.put, List.setIfInBounds_toArray, List.set_cons_zero, List.set_cons_succ]
        refine wpAnyH_ready (rs := [17]) (by decide +kernel) (by simp) (AllReadyH.cons rfl (fun K hK => ?_) AllReadyH.nil)
        go_simp
        refine (HLC.out _ hb67).mono ?_
        rintro e w8 ⟨rfl, hbc⟩
        have hb68 := hb67.trans (hbc.mono hb67.size)
        have hga' := (hbc.block _ hgl).trans hga
        have hgl' := Nat.lt_of_lt_of_le hgl hbc.size
        clear hga hgl
        have hga := hga'
        have hgl := hgl'
        clear hga' hgl'
        clear hbc
        go_wp2_with fail
        refine hK.out _ _ (HSK.out _ hb68) (fun hH8 => ?_)
        clear hK K
        try simp only [Act.put, List.setIfInBounds_toArray, List.set_cons_zero, List.set_cons_succ]
        clear hHz hH7
        refine wpAnyH_take (i := 18) (v := .agg #[.int .u16 (ma : Nat), .int .u16 (mb : Nat), .int .i64 gr, .int .i64 (clrAt ps p k), .int .i64 (leastG ps za)]) rfl (by kernel_rfl) (by kernel_rfl) (by kernel_rfl) (fun _ _ _ h => h) (Or.inl ⟨by rfl, by intro w hSw; go_simp⟩) hH8 ?_
        try simp only [Act.put, List.setIfInBounds_toArray, List.set_cons_zero, List.set_cons_succ]
        refine wpAnyH_ready (rs := [20]) (by decide +kernel) (by simp) (AllReadyH.cons rfl (fun K hK => ?_) AllReadyH.nil)
        have z0 : w8.cell? ⟨w6.heap.size, 0, none⟩ = some (.int .u16 0) := (cell_of_row _ _ 0 _ _ _ hga).trans rfl
        have z1 : w8.cell? ⟨w6.heap.size, 1, none⟩ = some (.int .u16 0) := (cell_of_row _ _ 1 _ _ _ hga).trans rfl
        have z2 : w8.cell? ⟨w6.heap.size, 2, none⟩ = some (.int .i64 0) := (cell_of_row _ _ 2 _ _ _ hga).trans rfl
        have z3 : w8.cell? ⟨w6.heap.size, 3, none⟩ = some (.int .i64 0) := (cell_of_row _ _ 3 _ _ _ hga).trans rfl
        have z4 : w8.cell? ⟨w6.heap.size, 4, none⟩ = some (.int .i64 0) := (cell_of_row _ _ 4 _ _ _ hga).trans rfl
        have zf : ∀ j, w8.frozen? ⟨w6.heap.size, j, none⟩ = false := fun j => frozen_of_row _ _ j _ _ hga
        go_simp
        have hgv := stored5P (a := .int .u16 (ma : Nat)) (b := .int .u16 (mb : Nat)) (c := .int .i64 gr) (d := .int .i64 (clrAt ps p k)) (e := .int .i64 (leastG ps za)) hga
        have hb6a := below5P (a := .int .u16 (ma : Nat)) (b := .int .u16 (mb : Nat)) (c := .int .i64 gr) (d := .int .i64 (clrAt ps p k)) (e := .int .i64 (leastG ps za)) hb68 hgz
        clear z0 z1 z2 z3 z4 zf hga hgl
        refine hK.out _ _ (HSK.out _ hb6a) (fun hHa => ?_)
        clear hK K hHa
        try simp only [Act.put, List.setIfInBounds_toArray, List.set_cons_zero, List.set_cons_succ]
        refine wpAnyH_done (by decide +kernel) ?_ _
        have hga := hgv
        clear hgv
        generalize (((((w8.setCell ⟨w6.heap.size, 0, none⟩ (.int .u16 (ma : Nat))).setCell ⟨w6.heap.size, 1, none⟩ (.int .u16 (mb : Nat))).setCell ⟨w6.heap.size, 2, none⟩ (.int .i64 gr)).setCell ⟨w6.heap.size, 3, none⟩ (.int .i64 (clrAt ps p k))).setCell ⟨w6.heap.size, 4, none⟩ (.int .i64 (leastG ps za))) = w9 at *
        obtain ⟨ga, hge⟩ : ∃ ga : Nat, ga = w6.heap.size := ⟨_, rfl⟩
        rw [← hge] at hga ⊢
        have hgz' : w6.heap.size ≤ ga := by omega
        clear hge hgz
        have hgz := hgz'
        clear hgz'
        clear hbz hb67 hb68 hH8
      all_goals
          have q0 : w9.cell? ⟨ga, 0, none⟩ = some (.int .u16 (ma : Nat)) := (cell_of_row _ _ 0 _ _ _ hga).trans rfl
          have q1 : w9.cell? ⟨ga, 1, none⟩ = some (.int .u16 (mb : Nat)) := (cell_of_row _ _ 1 _ _ _ hga).trans rfl
          have q2 : w9.cell? ⟨ga, 2, none⟩ = some (.int .i64 gr) := (cell_of_row _ _ 2 _ _ _ hga).trans rfl
          have q3 : w9.cell? ⟨ga, 3, none⟩ = some (.int .i64 (clrAt ps p k)) := (cell_of_row _ _ 3 _ _ _ hga).trans rfl
          have q4 : w9.cell? ⟨ga, 4, none⟩ = some (.int .i64 (leastG ps za)) := (cell_of_row _ _ 4 _ _ _ hga).trans rfl
          have HB9 := Lib.hid hb6a
          have HW9 := Lib.hid (HBX.out _ hb6a)
          have hcb := clrAt_bound ps p k
          have hlb := leastG_bound ps za
          have HLG : Hid (longAt ps p k = gr + clrAt ps p k) := Lib.hid HLA.out
          clear hb6a hga HCC HLC HSK HBX
          generalize clrAt ps p k = cl at *
          generalize leastG ps za = lg at *
          by_cases hm0 : ma = 0
          · have HPN : Hid (isPlan ps p = false) := Lib.hid (HNO.out (by rw [HOK.out, hm0]; rfl))
            have e0 : ((ma : Int) == 0) = true := by rw [hm0]; rfl
            have hth : w9.there w.heap.size 0 16 := there_block ((HB9.out.block w.heap.size (by omega)).trans ((b6.out.block w.heap.size (by omega)).trans HRZ5.out)) 16 rfl
            go_wp2_with ((with_reducible show wpList _ _ _ _ _ _); refine wpList_store_mid rfl 95 _ _ rfl w.heap.size 0 z16.toArray rfl rfl hth info_timed (all_oneCell_toArray z16_one) ?_)
            refine bodyPost_ret (v := .tuple #[.agg z16.toArray, .bool false]) (by
              have hload := run_loadVar_mid (P := Tryd.prog) (w9.setCells w.heap.size 0 z16) w.heap.size 0 95 z16 _ (World.rangeAt_setCells_same _ _ _ _ hth) Tryd.underlying95 rfl info_timed
              rw [results_cell_tmp rfl]
              simp [asAddr, hload, Result.andThen]) rfl ⟨z16, by rw [HPN.out], ⟨fun _ => rfl, fun hh => by rw [HPN.out] at hh; cases hh⟩, ?_⟩
            exact below_setCells _ (Nat.le_refl _) _ _ _ HW9.out
          · have e0 : ((ma : Int) == 0) = false := by simpa using hm0
            go_wp2_with fail
            refine (impl_InRange _ _ _ _).mono ?_
            cases hir : inB gr lg 60
            · have HPN : Hid (isPlan ps p = false) := Lib.hid (HNO.out (by rw [HOK.out, hir, Bool.and_false]))
              have hth : w9.there w.heap.size 0 16 := there_block ((HB9.out.block w.heap.size (by omega)).trans ((b6.out.block w.heap.size (by omega)).trans HRZ5.out)) 16 rfl
              rintro e wx ⟨rfl, rfl⟩
              clear hir
              go_wp2_with ((with_reducible show wpList _ _ _ _ _ _); refine wpList_store_mid rfl 95 _ _ rfl w.heap.size 0 z16.toArray rfl rfl hth info_timed (all_oneCell_toArray z16_one) ?_)
              refine bodyPost_ret (v := .tuple #[.agg z16.toArray, .bool false]) (by
                have hload := run_loadVar_mid (P := Tryd.prog) (w9.setCells w.heap.size 0 z16) w.heap.size 0 95 z16 _ (World.rangeAt_setCells_same _ _ _ _ hth) Tryd.underlying95 rfl info_timed
                rw [results_cell_tmp rfl]
                simp [asAddr, hload, Result.andThen]) rfl ⟨z16, by rw [HPN.out], ⟨fun _ => rfl, fun hh => by rw [HPN.out] at hh; cases hh⟩, ?_⟩
              exact below_setCells _ (Nat.le_refl _) _ _ _ HW9.out
            · rintro e wx ⟨rfl, rfl⟩
              have hgr := inB_t hir
              have HOKY : Hid (okPrt ps (prAt p k) = true) := Lib.hid (by rw [HOK.out, hir, decide_eq_false hm0]; rfl)
              have e8 : IntKind.i64.wrap (gr + cl) = gr + cl := by rw [IntKind.wrap_i64]; omega
              clear hir
              have hsk := sumTo_ok k HG.out
              have HAD := Lib.hid (impl_tadd w5.heap.size xs hln v1 v2 (sumTo ps p k) (gr + cl) k _ (begTo ps p k) ma mb gr cl lg w9 (ownr_below t6.out HB9.out) (ownr_below f6.out HB9.out) (ownr_below s6.out HB9.out) (by omega) (by omega) (by omega))
              rw [show (phC ma mb gr cl lg).toArray = #[.int .u16 (ma : Nat), .int .u16 (mb : Nat), .int .i64 gr, .int .i64 cl, .int .i64 lg] from rfl, ← HPS.out, ← begTo_succ, show sumTo ps p k + (gr + cl) = sumTo ps p (k + 1) by rw [← HLA.out]; rfl] at HAD
              go_wp2_with fail
              refine HAD.out.mono ?_
              rintro e w10 ⟨rfl, v1', v2', t10, f10, s10, b10⟩
              have T10 := Lib.hid t10
              have F10 := Lib.hid f10
              have S10 := Lib.hid s10
              have B10 := Lib.hid ((b6.out.trans (HB9.out.mono b6.out.size)).trans b10)
              have HG10 : Hid (∀ j, j < k + 1 → okPrt ps (prAt p j) = true) := Lib.hid (fun j hj => by
                by_cases e : j = k
                · subst e; exact HOKY.out
                · exact HG.out j (by omega))
              clear t10 f10 s10 b10 HAD q0 q1 q2 q3 q4 e0 e8 hH
              go_wp2
              go_roundw
              case rel => exact ⟨k + 1, v1', v2', by omega, by go_num, T10.out, F10.out, S10.out, HG10.out, B10.out⟩
              case measure => simp [intOf]; omega
    · obtain rfl : k = n2 := by omega
      have hp : isPlan ps p = true := by rw [isPlan_end (by rw [hl2]; exact HIN.out) (fun j hj => HG.out j (by omega))]; exact HCP.out
      have HPY := Lib.hid hp
      obtain ⟨a1, q1, rfl⟩ := ownr_sliced HPH.out
      obtain ⟨a2, q2, rfl⟩ := ownr_sliced HBG.out
      have hone : ∀ u ∈ xs, u.oneCell' = true := by rw [← HXS.out]; exact xcells_one _ _ _ _
      obtain ⟨cs, hcs⟩ : ∃ cs, cs = xs ++ [.slice a1 k q1, .slice a2 k q2, .int .i64 (sumTo ps p k)] := ⟨_, rfl⟩
      have ht := HT16.out
      rw [← hcs] at ht
      have hclen : cs.length = 16 := ht.1
      have hcone : ∀ u ∈ cs, u.oneCell' = true := fun u hu => by
        rw [hcs, List.mem_append] at hu
        rcases hu with hu | hu
        · exact hone u hu
        · simp only [List.mem_cons, List.not_mem_nil, or_false] at hu
          rcases hu with rfl | rfl | rfl <;> rfl
      have hrng : wr.rangeAt w5.heap.size 0 cs := fun j v hj => by rw [Nat.zero_add]; exact row_cell ht hj
      have hth : wr.there w.heap.size 0 16 := there_block ((HBL.out.block w.heap.size (by omega)).trans HRZ5.out) 16 rfl
      have hinf16 : (Tryd.prog.info? 95).map (·.size) = some cs.length := by rw [hclen]; exact info_timed
      have hth2 : wr.there w.heap.size 0 cs.toArray.size := by rw [show cs.toArray.size = 16 by simpa using hclen]; exact hth
      have hinf2 : (Tryd.prog.info? 95).map (·.size) = some cs.toArray.size := by rw [List.size_toArray]; exact hinf16
      have HCS := Lib.hid hcs
      have hgr := grown_setCells (b := w.heap.size) cs 0 wr (World.grownBy.refl _ _)
      have HPH2 := Lib.hid (ownr_grown HPH.out hgr (fun q e h' => by have := (ownr_block HPH.out q e).1; have := Option.some.inj h'; omega))
      have HBG2 := Lib.hid (ownr_grown HBG.out hgr (fun q e h' => by have := (ownr_block HBG.out q e).1; have := Option.some.inj h'; omega))
      have HBE := Lib.hid (HB5.out.trans (HBL.out.mono HB5.out.size))
      clear hp hone ht hgr hcs
      go_wp2_with
        (first
          | ((with_reducible show wpList _ _ _ _ _ _); refine wpList_load_mid rfl 95 _ rfl w5.heap.size 0 rfl cs _ hrng Tryd.underlying95 rfl hinf16 ?_)
          | ((with_reducible show wpList _ _ _ _ _ _); refine wpList_store_mid rfl 95 _ _ rfl w.heap.size 0 cs.toArray rfl rfl hth2 hinf2 (all_oneCell_toArray hcone) ?_))
      refine bodyPost_ret (v := .tuple #[.agg cs.toArray, .bool true]) (by
        have hload := run_loadVar_mid (P := Tryd.prog) (wr.setCells w.heap.size 0 cs) w.heap.size 0 95 cs _ (World.rangeAt_setCells_same _ _ _ _ (by rw [hclen]; exact hth)) Tryd.underlying95 rfl hinf16
        rw [results_cell_tmp rfl]
        simp [asAddr, hload, Result.andThen]) rfl ⟨cs, by rw [HPY.out], ⟨(fun hh => by rw [HPY.out] at hh; cases hh), fun _ => ⟨_, _, by rw [HCS.out, HFS.out, HXS.out, hl2], by rw [hl2]; exact ownr_mono HPH2.out (by omega), by rw [hl2]; exact ownr_mono HBG2.out (by omega)⟩⟩, ?_⟩
      exact below_setCells _ (Nat.le_refl _) _ _ _ HBE.out
end Go.Proofs.YtcbccbefkpklkaaDoor

/- timePlan in one piece; IsPlan, Cycle, StartOf of the program. -/
namespace Go.Proofs.YtcbccbefkpklkaaDoor
open Go.RowKit
set_option linter.unusedVariables false

/-- the cells of a timed plan. -/
def t16 (A : Option Addr) (n c : Nat) (f : Nat → Nat) (v1 v2 : Value) (L : Int) : Array Value := #[.slice A n c, .int .u16 (f 0 : Nat), .int .u16 (f 1 : Nat), .int .u16 (f 2 : Nat), .int .u16 (f 3 : Nat), .int .u16 (f 4 : Nat), .int .u16 (f 5 : Nat), .int .u16 (f 6 : Nat), .int .u16 (f 7 : Nat), .int .u16 (f 8 : Nat), .int .u16 (f 9 : Nat), .int .u16 (f 10 : Nat), .int .u16 (f 11 : Nat), v1, v2, .int .i64 L]
theorem t16_list (A : Option Addr) (n c : Nat) (f : Nat → Nat) (v1 v2 : Value) (L : Int) : (xcells A n c f ++ [v1, v2, .int .i64 L]).toArray = t16 A n c f v1 v2 L := rfl
/-- what a function of a plan is handed. -/
structure PlnIn (w : World) (A : Option Addr) (n c B : Nat) (ps : List Pth) (A2 : Option Addr) (n2 c2 B2 : Nat) (p : List Prt) : Prop where
  h : PthsAt w B A n ps
  hB : B ≤ w.heap.size
  hn : n ≤ c ∧ c ≤ maxLen
  hn4 : n ≤ 4294967296
  h2 : PrtsAt w B2 A2 n2 p
  hB2 : B2 ≤ w.heap.size
  hn2 : n2 ≤ 1048576
  hm : ∀ j, j < n2 → (prAt p j).stage.length ≤ 1048576
  hw : Brus w
  ht : Clrs w
theorem PlnIn.below {w w' : World} {A : Option Addr} {n c B : Nat} {ps : List Pth} {A2 : Option Addr} {n2 c2 B2 : Nat} {p : List Prt} (I : PlnIn w A n c B ps A2 n2 c2 B2 p) (hb : Below w.heap.size w w') : PlnIn w' A n c B ps A2 n2 c2 B2 p :=
  ⟨I.h.below (hb.mono I.hB), Nat.le_trans I.hB hb.size, I.hn, I.hn4, I.h2.below I.hB2 hb, Nat.le_trans I.hB2 hb.size, I.hn2, I.hm, I.hw.below hb (Nat.le_refl _), I.ht.below hb (Nat.le_refl _)⟩
theorem PlnIn.len {w : World} {A : Option Addr} {n c B : Nat} {ps : List Pth} {A2 : Option Addr} {n2 c2 B2 : Nat} {p : List Prt} (I : PlnIn w A n c B ps A2 n2 c2 B2 p) : p.length = n2 := I.h2.1
theorem PlnIn.lenp {w : World} {A : Option Addr} {n c B : Nat} {ps : List Pth} {A2 : Option Addr} {n2 c2 B2 : Nat} {p : List Prt} (I : PlnIn w A n c B ps A2 n2 c2 B2 p) : ps.length = n := I.h.1
/-- what a plan leaves in memory. -/
def PhsIn (w' : World) (lo : Nat) (ps : List Pth) (p : List Prt) (n2 : Nat) (a1 : Option Addr) (q1 : Nat) (a2 : Option Addr) (q2 : Nat) : Prop :=
  w'.ownsRow lo 114 5 (.slice a1 n2 q1) n2 ((phsTo ps p n2).flatMap Phs.cells) ∧ w'.ownsRow lo 3 1 (.slice a2 n2 q2) n2 ((begTo ps p n2).map (Value.int .i64))
theorem PhsIn.below {w w' : World} {lo : Nat} {ps : List Pth} {p : List Prt} {n2 : Nat} {a1 : Option Addr} {q1 : Nat} {a2 : Option Addr} {q2 : Nat} (h : PhsIn w lo ps p n2 a1 q1 a2 q2) (hb : Below w.heap.size w w') : PhsIn w' lo ps p n2 a1 q1 a2 q2 := ⟨ownr_below h.1 hb, ownr_below h.2 hb⟩
theorem impl_timePlan_off {w : World} {A : Option Addr} {n c B : Nat} {ps : List Pth} {A2 : Option Addr} {n2 c2 B2 : Nat} {p : List Prt} (I : PlnIn w A n c B ps A2 n2 c2 B2 p) (hp : isPlan ps p = false) :
    Calls Tryd.prog 70 #[.slice A n c, .slice A2 n2 c2] w fun e w' => e = .returned (.tuple #[.agg (t16 none 0 0 (fun _ => 0) (.slice none 0 0) (.slice none 0 0) 0), .bool false]) ∧ Below w.heap.size w w' := by
  have hl := I.h.1
  subst hl
  cases ha : arePs ps
  · refine (impl_timePlan_no A _ c B ps A2 n2 c2 B2 p w I.h I.hB I.hn4 I.h2 I.hB2 I.hn2 ha).mono ?_
    rintro e w' ⟨cs, rfl, ht, hb⟩
    obtain rfl := ht.1 hp
    exact ⟨by rw [hp]; rfl, hb⟩
  · refine (impl_timePlan_yes A _ c B ps A2 n2 c2 B2 p w I.h I.hB I.hn I.h2 I.hB2 I.hn2 I.hm ha I.hw I.ht).mono ?_
    rintro e w' ⟨cs, rfl, ht, hb⟩
    obtain rfl := ht.1 hp
    exact ⟨by rw [hp]; rfl, hb⟩
theorem impl_timePlan_on {w : World} {A : Option Addr} {n c B : Nat} {ps : List Pth} {A2 : Option Addr} {n2 c2 B2 : Nat} {p : List Prt} (I : PlnIn w A n c B ps A2 n2 c2 B2 p) (hp : isPlan ps p = true) :
    Calls Tryd.prog 70 #[.slice A n c, .slice A2 n2 c2] w fun e w' => ∃ a1 q1 a2 q2, e = .returned (.tuple #[.agg (t16 A n c (rowSt ps n 0) (.slice a1 n2 q1) (.slice a2 n2 q2) (sumTo ps p n2)), .bool true]) ∧ PhsIn w' w.heap.size ps p n2 a1 q1 a2 q2 ∧ Below w.heap.size w w' := by
  have hl := I.h.1
  have hl2 := I.h2.1
  subst hl
  have ha := (isPlan_parts hp).2.1
  refine (impl_timePlan_yes A _ c B ps A2 n2 c2 B2 p w I.h I.hB I.hn I.h2 I.hB2 I.hn2 I.hm ha I.hw I.ht).mono ?_
  rintro e w' ⟨cs, rfl, ht, hb⟩
  obtain ⟨v1, v2, rfl, o1, o2⟩ := ht.2 hp
  rw [hl2] at o1 o2 ⊢
  obtain ⟨a1, q1, rfl⟩ := ownr_sliced o1
  obtain ⟨a2, q2, rfl⟩ := ownr_sliced o2
  exact ⟨a1, q1, a2, q2, by rw [hp]; rfl, ⟨o1, o2⟩, hb⟩
set_option maxHeartbeats 2000000 in
set_option maxRecDepth 100000 in
theorem impl_Cycle {w : World} {A : Option Addr} {n c B : Nat} {ps : List Pth} {A2 : Option Addr} {n2 c2 B2 : Nat} {p : List Prt} (I : PlnIn w A n c B ps A2 n2 c2 B2 p) :
    Calls Tryd.prog 84 #[.slice A n c, .slice A2 n2 c2] w fun e w' => e = .returned (.int .i64 (cycleP ps p)) ∧ Below w.heap.size w w' := by
  cases hp : isPlan ps p
  · have H := impl_timePlan_off I hp
    unfold t16 at H
    have HC := Lib.hid H
    have HR := Lib.hid (cycle_no hp)
    clear H hp I
    go_enter Tryd.func84, Tryd.ntmps84
    go_wp2_with fail
    refine HC.out.mono ?_
    rintro e w1 ⟨rfl, hb⟩
    have HB := Lib.hid hb
    clear hb
    go_wp2
    go_ret
    exact ⟨by rw [HR.out]; try rfl, HB.out.alloc HB.out.size _⟩
  · have H := impl_timePlan_on I hp
    unfold t16 at H
    have HC := Lib.hid H
    have HR := Lib.hid (cycle_yes hp)
    rw [I.len] at HR
    clear H hp I
    generalize sumTo ps p n2 = L at *
    go_enter Tryd.func84, Tryd.ntmps84
    go_wp2_with fail
    refine HC.out.mono ?_
    rintro e w1 ⟨a1, q1, a2, q2, rfl, -, hb⟩
    have HB := Lib.hid hb
    clear hb
    go_wp2
    go_ret
    exact ⟨by rw [HR.out]; try rfl, HB.out.alloc HB.out.size _⟩
end Go.Proofs.YtcbccbefkpklkaaDoor

/- Rows of elements of two or three cells. No program. -/
namespace Go.Proofs.YtcbccbefkpklkaaDoor
open Go.RowKit

theorem stored2 {w : World} {g : Nat} {x0 x1 a b : Value} {E : TypeId} (h : w.heap[g]? = some (.cells #[x0, x1] E)) : ((w.setCell ⟨g, 0, none⟩ a).setCell ⟨g, 1, none⟩ b).heap[g]? = some (.cells #[a, b] E) :=
  heap_setCell_same _ g 1 _ E b (heap_setCell_same w g 0 _ E a h)
theorem stored3 {w : World} {g : Nat} {x0 x1 x2 a b c : Value} {E : TypeId} (h : w.heap[g]? = some (.cells #[x0, x1, x2] E)) : (((w.setCell ⟨g, 0, none⟩ a).setCell ⟨g, 1, none⟩ b).setCell ⟨g, 2, none⟩ c).heap[g]? = some (.cells #[a, b, c] E) :=
  heap_setCell_same _ g 2 _ E c (heap_setCell_same _ g 1 _ E b (heap_setCell_same w g 0 _ E a h))
theorem stored4 {w : World} {g : Nat} {x0 x1 x2 x3 a b c d : Value} {E : TypeId} (h : w.heap[g]? = some (.cells #[x0, x1, x2, x3] E)) : ((((w.setCell ⟨g, 0, none⟩ a).setCell ⟨g, 1, none⟩ b).setCell ⟨g, 2, none⟩ c).setCell ⟨g, 3, none⟩ d).heap[g]? = some (.cells #[a, b, c, d] E) :=
  heap_setCell_same _ g 3 _ E d (heap_setCell_same _ g 2 _ E c (heap_setCell_same _ g 1 _ E b (heap_setCell_same w g 0 _ E a h)))
theorem unstored2 {w : World} {g k : Nat} {a b : Value} {x : Obj} (h : w.heap[k]? = some x) (hk : k ≠ g) : ((w.setCell ⟨g, 0, none⟩ a).setCell ⟨g, 1, none⟩ b).heap[k]? = some x :=
  (heap_setCell_other _ _ k b hk).trans ((heap_setCell_other w _ k a hk).trans h)
theorem unstored3 {w : World} {g k : Nat} {a b c : Value} {x : Obj} (h : w.heap[k]? = some x) (hk : k ≠ g) : (((w.setCell ⟨g, 0, none⟩ a).setCell ⟨g, 1, none⟩ b).setCell ⟨g, 2, none⟩ c).heap[k]? = some x :=
  (heap_setCell_other _ _ k c hk).trans ((heap_setCell_other _ _ k b hk).trans ((heap_setCell_other w _ k a hk).trans h))
theorem unstored4 {w : World} {g k : Nat} {a b c d : Value} {x : Obj} (h : w.heap[k]? = some x) (hk : k ≠ g) : ((((w.setCell ⟨g, 0, none⟩ a).setCell ⟨g, 1, none⟩ b).setCell ⟨g, 2, none⟩ c).setCell ⟨g, 3, none⟩ d).heap[k]? = some x :=
  (heap_setCell_other _ _ k d hk).trans ((heap_setCell_other _ _ k c hk).trans ((heap_setCell_other _ _ k b hk).trans ((heap_setCell_other w _ k a hk).trans h)))
theorem add_plusF (q : Addr) (i : Nat) (h : 0 < i) : q.add i = ⟨q.block, q.off + i, none⟩ := by unfold Addr.add; rw [if_neg (by omega)]
theorem heap_size_allocF (w : World) (o : Obj) : (w.alloc o).heap.size = w.heap.size + 1 := by simp
theorem heap_old (w : World) (o : Obj) {g : Nat} {x : Obj} (h : w.heap[g]? = some x) : (w.alloc o).heap[g]? = some x := (Below.heap_alloc _ _ _ (lt_of_block h)).trans h
theorem heap_newF (w : World) (o : Obj) {g : Nat} (h : w.heap.size = g) : (w.alloc o).heap[g]? = some o := by subst h; exact heap_alloc_new w o
theorem one_block {w wA : World} {o0 : Obj} (h : wA = w.alloc o0) : wA.heap[w.heap.size]? = some o0 ∧ wA.heap.size = w.heap.size + 1 ∧ Below w.heap.size w wA := by
  subst h
  exact ⟨heap_alloc_new w o0, heap_size_allocF _ _, (Below.refl _ _).alloc (Nat.le_refl _) _⟩
theorem two_blocks {w wA : World} {o0 o1 : Obj} (h : wA = (w.alloc o0).alloc o1) : wA.heap[w.heap.size]? = some o0 ∧ wA.heap[w.heap.size + 1]? = some o1 ∧ wA.heap.size = w.heap.size + 2 ∧ Below w.heap.size w wA := by
  subst h
  refine ⟨heap_old _ _ (heap_alloc_new w o0), heap_newF _ _ (heap_size_allocF _ _), ?_, ((Below.refl _ _).alloc (Nat.le_refl _) _).alloc ?_ _⟩
  · rw [heap_size_allocF, heap_size_allocF]
  · rw [heap_size_allocF]; omega
theorem three_blocks {w wA : World} {o0 o1 o2 : Obj} (h : wA = ((w.alloc o0).alloc o1).alloc o2) : wA.heap[w.heap.size]? = some o0 ∧ wA.heap[w.heap.size + 1]? = some o1 ∧ wA.heap[w.heap.size + 1 + 1]? = some o2 ∧ wA.heap.size = w.heap.size + 3 ∧ Below w.heap.size w wA := by
  subst h
  refine ⟨heap_old _ _ (heap_old _ _ (heap_alloc_new w o0)), heap_old _ _ (heap_newF _ _ (heap_size_allocF _ _)), heap_newF _ _ ?_, ?_, (((Below.refl _ _).alloc (Nat.le_refl _) _).alloc ?_ _).alloc ?_ _⟩
  · rw [heap_size_allocF, heap_size_allocF]
  · rw [heap_size_allocF, heap_size_allocF, heap_size_allocF]
  · rw [heap_size_allocF]; omega
  · rw [heap_size_allocF, heap_size_allocF]; omega
theorem results_cell_tmpF {fn : Func} {p q : Tmp} {ty : TypeId} (h : fn.results = #[.cell p ty, .tmp q]) (tmps : Array Value) (P : Program) (w : World) :
    (results fn tmps).run P w = ((asAddr (tmps.getD p undef)).run P w).andThen fun a w₁ => ((loadVar ty a).run P w₁).andThen fun v w₂ => .ok (.tuple #[v, tmps.getD q undef]) w₂ := by
  simp only [results, h]
  simp [Sem.run_bind, Result.andThen]
theorem set2 {pre rest : List Value} {z0 z1 a b : Value} {m : Nat} (h : pre.length = m) : (((pre ++ z0 :: z1 :: rest).set m a).set (m + 1) b) = pre ++ a :: b :: rest := by
  rw [set_at h]
  have e1 : pre ++ a :: z1 :: rest = (pre ++ [a]) ++ z1 :: rest := by simp
  rw [e1, set_at (by simp [h])]
  simp
theorem drop2 {zs : List Value} {m : Nat} (h : m + 2 ≤ zs.length) : ∃ z0 z1, zs.drop m = z0 :: z1 :: zs.drop (m + 2) :=
  ⟨zs[m], zs[m + 1], by rw [List.drop_eq_getElem_cons (by omega), List.drop_eq_getElem_cons (by omega)]⟩
theorem set3 {pre rest : List Value} {z0 z1 z2 a b c : Value} {m : Nat} (h : pre.length = m) : (((pre ++ z0 :: z1 :: z2 :: rest).set m a).set (m + 1) b).set (m + 2) c = pre ++ a :: b :: c :: rest := by
  rw [set_at h]
  have e1 : pre ++ a :: z1 :: z2 :: rest = (pre ++ [a]) ++ z1 :: z2 :: rest := by simp
  rw [e1, set_at (by simp [h])]
  have e2 : (pre ++ [a]) ++ b :: z2 :: rest = (pre ++ [a, b]) ++ z2 :: rest := by simp
  rw [e2, set_at (by simp [h])]
  simp
theorem drop3 {zs : List Value} {m : Nat} (h : m + 3 ≤ zs.length) : ∃ z0 z1 z2, zs.drop m = z0 :: z1 :: z2 :: zs.drop (m + 3) :=
  ⟨zs[m], zs[m + 1], zs[m + 2], by rw [List.drop_eq_getElem_cons (by omega), List.drop_eq_getElem_cons (by omega), List.drop_eq_getElem_cons (by omega)]⟩
theorem set5 {pre rest : List Value} {z0 z1 z2 z3 z4 a b c d e : Value} {m : Nat} (h : pre.length = m) : (((((pre ++ z0 :: z1 :: z2 :: z3 :: z4 :: rest).set m a).set (m + 1) b).set (m + 2) c).set (m + 3) d).set (m + 4) e = pre ++ a :: b :: c :: d :: e :: rest := by
  rw [set4 h]
  have e1 : pre ++ a :: b :: c :: d :: z4 :: rest = (pre ++ [a, b, c, d]) ++ z4 :: rest := by simp
  rw [e1, set_at (by simp [h])]
  simp
theorem drop5 {zs : List Value} {m : Nat} (h : m + 5 ≤ zs.length) : ∃ z0 z1 z2 z3 z4, zs.drop m = z0 :: z1 :: z2 :: z3 :: z4 :: zs.drop (m + 5) :=
  ⟨zs[m], zs[m + 1], zs[m + 2], zs[m + 3], zs[m + 4], by rw [List.drop_eq_getElem_cons (by omega), List.drop_eq_getElem_cons (by omega), List.drop_eq_getElem_cons (by omega), List.drop_eq_getElem_cons (by omega), List.drop_eq_getElem_cons (by omega)]⟩
end Go.Proofs.YtcbccbefkpklkaaDoor

/- The program's rows of lights: show, showTo, rowOf. -/
namespace Go.Proofs.YtcbccbefkpklkaaDoor
open Go.RowKit
set_option linter.unusedVariables false

/-- the variable at g holds a row of lights of the call's own. -/
def RowAt (w : World) (lo g : Nat) (v : Value) (zs : List Int) : Prop :=
  w.ownsRow lo 98 1 (.slice (some ⟨g, 0, none⟩) 1 1) 1 [v] ∧ w.ownsRow lo 3 1 v zs.length (zs.map (Value.int .i64))
theorem RowAt.below {w w' : World} {lo g : Nat} {v : Value} {zs : List Int} (h : RowAt w lo g v zs) (hb : Below w.heap.size w w') : RowAt w' lo g v zs := ⟨ownr_below h.1 hb, ownr_below h.2 hb⟩
theorem RowAt.cell {w : World} {lo g : Nat} {v : Value} {zs : List Int} (h : RowAt w lo g v zs) : w.cell? ⟨g, 0, none⟩ = some v := row_cell h.1 rfl
theorem RowAt.lt {w : World} {lo g : Nat} {v : Value} {zs : List Int} (h : RowAt w lo g v zs) : lo ≤ g ∧ g < w.heap.size := ownr_block h.1 _ rfl
/-- beside the variable at g and what it holds nothing has changed. -/
structure KeptR (w w' : World) (lo g : Nat) (v v' : Value) : Prop where
  below : Below lo w w'
  block : ∀ b, b < w.heap.size → b ≠ g → v.ownBlock ≠ some b → w'.heap[b]? = w.heap[b]?
  own : ∀ b, v'.ownBlock = some b → v.ownBlock = some b ∨ w.heap.size ≤ b
theorem KeptR.refl (w : World) (lo g : Nat) (v : Value) : KeptR w w lo g v v := ⟨Below.refl _ _, fun _ _ _ _ => rfl, fun _ h => .inl h⟩
theorem KeptR.trans {w w' w'' : World} {lo g : Nat} {v v' v'' : Value} (h : KeptR w w' lo g v v') (k : KeptR w' w'' lo g v' v'') : KeptR w w'' lo g v v'' := by
  have hs := h.below.size
  refine ⟨h.below.trans k.below, fun b hb hg hv => (k.block b (by omega) hg fun e => ?_).trans (h.block b hb hg hv), fun b e => ?_⟩
  · rcases h.own b e with q | q
    · exact hv q
    · omega
  · rcases k.own b e with q | q
    · exact h.own b q
    · exact .inr (by omega)
theorem KeptR.of_below {w w' : World} {lo g : Nat} {v : Value} (hb : Below w.heap.size w w') (hl : lo ≤ w.heap.size) : KeptR w w' lo g v v := ⟨hb.mono hl, fun b h _ _ => hb.block b h, fun _ h => .inl h⟩
theorem keptr_grown {w wr w4 : World} {lo g : Nat} {v u v4 : Value} {o : Obj} (h : KeptR w wr lo g v u) (hg : (wr.alloc o).grownBy w4 u.ownBlock) (ha : v4.ownBlock = u.ownBlock ∨ v4.ownBlock = some (wr.heap.size + 1)) :
    (∀ b, b < w.heap.size → v.ownBlock ≠ some b → b ≠ g → w4.heap[b]? = w.heap[b]?) ∧ ∀ b, v4.ownBlock = some b → v.ownBlock = some b ∨ w.heap.size ≤ b := by
  have hs := h.below.size
  refine ⟨fun b hb hv hne => ?_, fun b e => ?_⟩
  · have h1 := hg.block b (by simp; omega) (fun e => by
      rcases h.own b e.symm with q | q
      · exact hv q
      · omega)
    have h2 := Below.heap_alloc wr o b (by omega)
    exact h1.trans (h2.trans (h.block b hb hne hv))
  · rcases ha with q | q
    · rw [q] at e; exact h.own b e
    · rw [q] at e; injection e with e; exact .inr (by omega)
set_option maxHeartbeats 2000000 in
theorem impl_show (g lo : Nat) (v : Value) (zs : List Int) (light : Int) (secs : Nat) (w : World) (h : RowAt w lo g v zs) (hn : zs.length + secs ≤ 1000000) :
    Calls Tryd.prog 157 #[.pointer (some ⟨g, 0, none⟩), .int .i64 light, .int .i64 (secs : Nat)] w fun e w' => e = .returned (.tuple #[]) ∧ ∃ v', RowAt w' lo g v' (zs ++ List.replicate secs light) ∧ KeptR w w' lo g v v' := by
  have hlg := h.lt
  have H := Lib.hid h
  have ht : 98 ≠ 3 := by decide
  clear h
  go_enter Tryd.func157, Tryd.ntmps157
  go_wp2
  go_loopw [7] (fun i wr => ∃ (k : Nat) (u : Value), k ≤ secs ∧ i = .int .i64 k ∧ RowAt wr lo g u (zs ++ List.replicate k light) ∧ KeptR w wr lo g v u) (fun i _ => secs - (intOf i).toNat)
  case atStart => exact ⟨0, v, Nat.zero_le _, rfl, by simpa using H.out, KeptR.refl _ _ _ _⟩
  case round =>
    obtain ⟨k, u, hk, rfl, hrow, hbl⟩ := hrel
    have hsz := hbl.below.size
    by_cases hlt : k < secs
    · obtain ⟨ys, hys⟩ : ∃ ys, ys = zs ++ List.replicate k light := ⟨_, rfl⟩
      have hlen : ys.length ≤ 1000000 := by rw [hys]; simp only [List.length_append, List.length_replicate]; omega
      rw [← hys] at hrow
      have c0 := hrow.cell
      have HR := Lib.hid hrow
      have HB := Lib.hid hbl
      have hlo : lo ≤ wr.heap.size := by have := hrow.lt; omega
      have HPU : Hid (ys ++ [light] = zs ++ List.replicate (k + 1) light) := Lib.hid (by rw [hys, List.append_assoc]; congr 1; rw [List.replicate_succ']) 
      clear hrow hbl hys
      go_wp2_with (at_builtin; refine wpList_appR1 rfl _ _ 98 rfl 3 (.int .i64 0) 1 8 Tryd.underlying98 info_int1 rfl (by decide) (by decide) lo _ _ _ rfl HR.out.2 (by omega) [.int .i64 light] rfl (by simp [Value.oneCell']) _ _ wr.heap.size hlo rfl (by simp) ?_; intro v4 w4 hown4 hgrow4 hat4; have hT4 := ownr_grown (ownr_below HR.out.1 ((Below.refl wr.heap.size wr).alloc (Nat.le_refl _) _)) hgrow4 (fun q e h' => apart_types HR.out.1 HR.out.2 ht q e h'); have hB4 := ownr_push HR.out.2 (Nat.le_refl lo) (HB.out.below.alloc hlo _) (by simp; omega) hgrow4; have hK4 := keptr_grown HB.out hgrow4 hat4; obtain ⟨A4, d4, rfl⟩ := ownr_sliced hown4; obtain ⟨x4, hx4⟩ := ownr_some hT4 (j := 0) (by decide); have hf4 := World.ownsRow.frozenAt hT4 0; clear hgrow4 hat4 c0)
      have hs := World.ownsRow.stored hT4 0 (.slice A4 (ys.length + 1) d4)
      have hR5 : Hid (RowAt (w4.setCell ⟨g, 0, none⟩ (.slice A4 (ys.length + 1) d4)) lo g (.slice A4 (ys.length + 1) d4) (zs ++ List.replicate (k + 1) light)) := Lib.hid (by
        have h2 := ownr_grown hown4 hs.2 (fun q e h' => apart_types hT4 hown4 ht q h' e)
        refine ⟨hs.1, ?_⟩
        rw [← HPU.out, List.map_append]
        simpa using h2)
      have hB5 : Hid (KeptR w (w4.setCell ⟨g, 0, none⟩ (.slice A4 (ys.length + 1) d4)) lo g v (.slice A4 (ys.length + 1) d4)) := Lib.hid ⟨hB4.setCell (p := ⟨g, 0, none⟩) hlg.1 _, fun b hb hne hv => (heap_setCell_other _ _ _ _ hne).trans (hK4.1 b hb hv hne), hK4.2⟩
      clear hs hB4 hown4 hT4 hx4 hf4 hK4
      go_roundw
      case rel => exact ⟨k + 1, _, by omega, by go_num, hR5.out, hB5.out⟩
      case measure => simp [intOf]; omega
    · obtain rfl : k = secs := by omega
      have HR := Lib.hid hrow
      have HB := Lib.hid hbl
      clear hrow hbl
      go_wp2
      go_end0
      exact ⟨rfl, _, HR.out, HB.out⟩
theorem bit_u16 (m i : Nat) (hm : m < 4096) (hi : i < 12) : bits .and .u16 ((m : Nat) : Int) ((2 ^ i : Nat) : Int) = ((m &&& 2 ^ i : Nat) : Int) := by
  have : 2 ^ i ≤ 2 ^ 11 := Nat.pow_le_pow_right (by decide) (by omega)
  exact u16_and_nat _ _ (by omega) (by omega)
set_option maxHeartbeats 2000000 in
set_option maxRecDepth 100000 in
theorem impl_showTo (f : Phs) (g lo : Nat) (v : Value) (zs : List Int) (i : Nat) (most : Int) (w : World) (h : RowAt w lo g v zs) (ho : f.opn < 4096) (hx : f.nxt < 4096) (hi : i < 12) (hg : 0 ≤ f.green ∧ f.green ≤ 60) (hc : 0 ≤ f.clr ∧ f.clr ≤ 5) (hm : 0 ≤ most ∧ most ≤ 1000) (hn : zs.length ≤ 100000) :
    Calls Tryd.prog 121 #[.agg f.cells.toArray, .pointer (some ⟨g, 0, none⟩), .int .u16 ((2 ^ i : Nat) : Int), .int .i64 most] w fun e w' => e = .returned (.tuple #[]) ∧ ∃ v', RowAt w' lo g v' (zs ++ showP f i most) ∧ KeptR w w' lo g v v' := by
  obtain ⟨o, x, gr, cl, le⟩ := f
  simp only at *
  have hlg := h.lt
  have ho2 := bit_u16 o i ho hi
  have hx2 := bit_u16 x i hx hi
  have hbA := (Below.refl w.heap.size w).alloc (Nat.le_refl _) (.cells #[.int .u16 (o : Nat), .int .u16 (x : Nat), .int .i64 gr, .int .i64 cl, .int .i64 le] 114)
  have HBA := Lib.hid (KeptR.of_below (g := g) (v := v) hbA (show lo ≤ w.heap.size by omega))
  have HR := Lib.hid (h.below hbA)
  have HSP : Hid (showP ⟨o, x, gr, cl, le⟩ i most = if o.testBit i then List.replicate gr.toNat 1 ++ (if x.testBit i then List.replicate cl.toNat 1 else List.replicate (minI most cl).toNat 2 ++ List.replicate (cl - minI most cl).toNat 0) else List.replicate (gr + cl).toNat 0) := Lib.hid rfl
  have hkm : 0 ≤ minI most cl ∧ minI most cl ≤ cl := by unfold minI; split <;> omega
  have e8 : IntKind.i64.wrap (gr + cl) = gr + cl := by rw [IntKind.wrap_i64]; omega
  have e9 : IntKind.i64.wrap (cl - minI most cl) = cl - minI most cl := by rw [IntKind.wrap_i64]; omega
  have n1 : gr = (gr.toNat : Int) := by omega
  have n2 : cl = (cl.toNat : Int) := by omega
  have n3 : gr + cl = ((gr + cl).toNat : Int) := by omega
  have n4 : minI most cl = ((minI most cl).toNat : Int) := by omega
  have n5 : cl - minI most cl = ((cl - minI most cl).toNat : Int) := by omega
  have hz1 := and_pow0 o i
  have hz2 := and_pow0 x i
  obtain ⟨wA, hwA⟩ : ∃ wA, wA = w.alloc (.cells #[.int .u16 (o : Nat), .int .u16 (x : Nat), .int .i64 gr, .int .i64 cl, .int .i64 le] 114) := ⟨_, rfl⟩
  obtain ⟨hk0, hsz, hbw⟩ := one_block hwA
  rw [← hwA] at HBA HR
  have hvb : ∀ b, v.ownBlock = some b → b < w.heap.size := fun b e => (ownr_block h.2 b e).2
  have hcells : ∀ W v', KeptR wA W lo g v v' → W.heap[w.heap.size]? = some (.cells #[.int .u16 (o : Nat), .int .u16 (x : Nat), .int .i64 gr, .int .i64 cl, .int .i64 le] 114) := fun W v' hk => (hk.block w.heap.size (by omega) (by omega) (fun e => by have := hvb _ e; omega)).trans hk0
  have HCE := Lib.hid hcells
  have HVB := Lib.hid hvb
  have HK0 := Lib.hid hk0
  have HB1 := Lib.hid hbA
  clear h hbA ho hx hcells hk0 hvb hbw
  have HN1 := Lib.hid n1
  have HN2 := Lib.hid n2
  have HN3 := Lib.hid n3
  have HN4 := Lib.hid n4
  have HN5 := Lib.hid n5
  clear n1 n2 n3 n4 n5
  have c0 : wA.cell? ⟨w.heap.size, 0, none⟩ = some (.int .u16 (o : Nat)) := (cell_of_row _ _ 0 _ _ _ HK0.out).trans rfl
  have c2 : wA.cell? ⟨w.heap.size, 2, none⟩ = some (.int .i64 gr) := (cell_of_row _ _ 2 _ _ _ HK0.out).trans rfl
  have c3 : wA.cell? ⟨w.heap.size, 3, none⟩ = some (.int .i64 cl) := (cell_of_row _ _ 3 _ _ _ HK0.out).trans rfl
  show Calls _ _ #[.agg #[.int .u16 (o : Nat), .int .u16 (x : Nat), .int .i64 gr, .int .i64 cl, .int .i64 le], _, _, _] _ _
  obtain ⟨pw, hpw⟩ : ∃ pw, pw = 2 ^ i := ⟨_, rfl⟩
  rw [← hpw] at ho2 hx2 hz1 hz2 ⊢
  clear hpw
  cases hbo : o.testBit i
  · have e0 : (((o &&& pw : Nat) : Int) == 0) = true := by rw [hz1.2 hbo]; rfl
    have H1 := impl_show g lo v zs 0 (gr + cl).toNat wA HR.out (by omega)
    rw [← HN3.out] at H1
    have HC := Lib.hid H1
    have HE : Hid (showP ⟨o, x, gr, cl, le⟩ i most = List.replicate (gr + cl).toNat 0) := Lib.hid (by rw [HSP.out, hbo]; rfl)
    clear hbo H1 hz1 hz2
    go_enter Tryd.func121, Tryd.ntmps121
    go_wp2_with fail
    rw [← hwA]
    clear hwA
    refine HC.out.mono ?_
    rintro e w1 ⟨rfl, v1, hr1, hk1⟩
    have HR1 := Lib.hid hr1
    have HK1 := Lib.hid (HBA.out.trans hk1)
    clear hr1 hk1 c0 c2 c3
    go_wp2
    exact bodyPost_ret (results_none rfl _ _ _) rfl ⟨rfl, _, by rw [HE.out]; exact HR1.out, HK1.out⟩
  · have e0 : (((o &&& pw : Nat) : Int) == 0) = false := by
      have : ¬ (o &&& pw) = 0 := fun e => by rw [hz1.1 e] at hbo; cases hbo
      simpa using this
    have H1 := impl_show g lo v zs 1 gr.toNat wA HR.out (by omega)
    rw [← HN1.out] at H1
    have HC := Lib.hid H1
    have hl1 : (zs ++ List.replicate gr.toNat 1).length = zs.length + gr.toNat := by simp
    cases hbx : x.testBit i
    · have ex : (((x &&& pw : Nat) : Int) != 0) = false := by rw [hz2.2 hbx]; rfl
      have HE : Hid (showP ⟨o, x, gr, cl, le⟩ i most = List.replicate gr.toNat 1 ++ (List.replicate (minI most cl).toNat 2 ++ List.replicate (cl - minI most cl).toNat 0)) := Lib.hid (by rw [HSP.out, hbo, hbx]; rfl)
      clear hbo hbx H1 hz1 hz2
      go_enter Tryd.func121, Tryd.ntmps121
      go_wp2_with fail
      rw [← hwA]
      clear hwA
      refine HC.out.mono ?_
      rintro e w1 ⟨rfl, v1, hr1, hk1⟩
      have hk := HCE.out w1 _ hk1
      have HR1 := Lib.hid hr1
      have HK1 := Lib.hid hk1
      have hsz1 := hk1.below.size
      clear hr1 hk1 c0 c2 c3
      have d1 : w1.cell? ⟨w.heap.size, 1, none⟩ = some (.int .u16 (x : Nat)) := (cell_of_row _ _ 1 _ _ _ hk).trans rfl
      have d3 : w1.cell? ⟨w.heap.size, 3, none⟩ = some (.int .i64 cl) := (cell_of_row _ _ 3 _ _ _ hk).trans rfl
      go_wp2_with fail
      refine (impl_Min most cl w1).mono ?_
      generalize hown : minI most cl = own at *
      rintro e w2 ⟨rfl, hb2⟩
      have hlo1 : lo ≤ w1.heap.size := by have := HR1.out.lt; omega
      have H2 := impl_show g lo v1 _ 2 own.toNat w2 (HR1.out.below hb2) (by rw [hl1]; omega)
      rw [← HN4.out] at H2
      have HC2 := Lib.hid H2
      have hvb : ∀ b, v1.ownBlock = some b → b < w1.heap.size ∧ b ≠ w.heap.size := fun b e => by
        have h1 := (ownr_block HR1.out.2 b e).2
        refine ⟨h1, fun e2 => ?_⟩
        subst e2
        rcases HK1.out.own _ e with q | q
        · have := HVB.out _ q; omega
        · omega
      have HCE2 : Hid (∀ W v', KeptR w2 W lo g v1 v' → W.heap[w.heap.size]? = some (.cells #[.int .u16 (o : Nat), .int .u16 (x : Nat), .int .i64 gr, .int .i64 cl, .int .i64 le] 114)) := Lib.hid (fun W v' hkk => (hkk.block w.heap.size (by have := hb2.size; omega) (by omega) (fun e => (hvb _ e).2 rfl)).trans ((hb2.block w.heap.size (by omega)).trans hk))
      have HKA := Lib.hid ((HBA.out.trans HK1.out).trans (KeptR.of_below hb2 hlo1))
      clear H2 hb2 hvb hk d1 d3
      go_wp2_with fail
      refine HC2.out.mono ?_
      rintro e w3 ⟨rfl, v3, hr3, hk3⟩
      have hk := HCE2.out w3 _ hk3
      have HKB := Lib.hid (HKA.out.trans hk3)
      have d3 : w3.cell? ⟨w.heap.size, 3, none⟩ = some (.int .i64 cl) := (cell_of_row _ _ 3 _ _ _ hk).trans rfl
      have H3 := impl_show g lo v3 _ 0 (cl - own).toNat w3 hr3 (by simp only [List.length_append, List.length_replicate] at hl1 ⊢; omega)
      rw [← HN5.out] at H3
      have HC3 := Lib.hid H3
      clear H3 hk hr3 hk3
      go_wp2_with fail
      refine HC3.out.mono ?_
      rintro e w4 ⟨rfl, v4, hr4, hk4⟩
      have HKC := Lib.hid (HKB.out.trans hk4)
      rw [List.append_assoc, List.append_assoc, ← HE.out] at hr4
      have HR4 := Lib.hid hr4
      clear hr4 hk4 d3
      go_wp2
      go_end0
      exact ⟨rfl, _, HR4.out, HKC.out⟩
    · have ex : (((x &&& pw : Nat) : Int) != 0) = true := by
        have : ¬ (x &&& pw) = 0 := fun e => by rw [hz2.1 e] at hbx; cases hbx
        simpa using this
      have HE : Hid (showP ⟨o, x, gr, cl, le⟩ i most = List.replicate gr.toNat 1 ++ List.replicate cl.toNat 1) := Lib.hid (by rw [HSP.out, hbo, hbx]; rfl)
      clear hbo hbx H1 hz1 hz2
      go_enter Tryd.func121, Tryd.ntmps121
      go_wp2_with fail
      rw [← hwA]
      clear hwA
      refine HC.out.mono ?_
      rintro e w1 ⟨rfl, v1, hr1, hk1⟩
      have hk := HCE.out w1 _ hk1
      have HK1 := Lib.hid (HBA.out.trans hk1)
      have H2 := impl_show g lo v1 _ 1 cl.toNat w1 hr1 (by rw [hl1]; omega)
      rw [← HN2.out] at H2
      have HC2 := Lib.hid H2
      clear hr1 hk1 c0 c2 c3 H2
      have d1 : w1.cell? ⟨w.heap.size, 1, none⟩ = some (.int .u16 (x : Nat)) := (cell_of_row _ _ 1 _ _ _ hk).trans rfl
      have d3 : w1.cell? ⟨w.heap.size, 3, none⟩ = some (.int .i64 cl) := (cell_of_row _ _ 3 _ _ _ hk).trans rfl
      clear hk
      go_wp2_with fail
      refine HC2.out.mono ?_
      rintro e w2 ⟨rfl, v2, hr2, hk2⟩
      have HK2 := Lib.hid (HK1.out.trans hk2)
      rw [List.append_assoc, ← HE.out] at hr2
      have HR2 := Lib.hid hr2
      clear hr2 hk2 d1 d3
      go_wp2
      exact bodyPost_ret (results_none rfl _ _ _) rfl ⟨rfl, _, HR2.out, HK2.out⟩
theorem okPhs {ps : List Pth} {p : List Prt} (h : isPlan ps p = true) {j : Nat} (hj : j < p.length) : (phsAt ps p j).opn < 4096 ∧ (phsAt ps p j).nxt < 4096 ∧ (0 ≤ (phsAt ps p j).green ∧ (phsAt ps p j).green ≤ 60) ∧ (0 ≤ (phsAt ps p j).clr ∧ (phsAt ps p j).clr ≤ 5) := by
  obtain ⟨⟨_, _⟩, ha, _, hok⟩ := isPlan_parts h
  have h12 := arePs_len12 ha
  have hg := (okPrt_parts (hok j hj)).2.2
  have hlb := leastG_bound ps (prAt p j).stage
  have hc := clrAt_bound ps p j
  exact ⟨maskL_lt _ _ h12, maskL_lt _ _ h12, by show 0 ≤ (prAt p j).green ∧ (prAt p j).green ≤ 60; omega, hc⟩
theorem PhsIn.cells {w : World} {lo : Nat} {ps : List Pth} {p : List Prt} {n2 : Nat} {g : Nat} {q1 : Nat} {a2 : Option Addr} {q2 : Nat} (h : PhsIn w lo ps p n2 (some ⟨g, 0, none⟩) q1 a2 q2) {k : Nat} (hk : k < n2) (d : Nat) (hd : d < 5) : w.cell? ⟨g, k * 5 + d, none⟩ = (phsAt ps p k).cells[d]? := by
  rw [World.ownsRow.cellAt h.1 (k * 5 + d) (by omega)]
  exact phs_cell (phs_at hk) d hd
theorem PhsIn.some {w : World} {lo : Nat} {ps : List Pth} {p : List Prt} {n2 : Nat} {a1 : Option Addr} {q1 : Nat} {a2 : Option Addr} {q2 : Nat} (h : PhsIn w lo ps p n2 a1 q1 a2 q2) (h0 : 0 < n2) : ∃ g, a1 = some ⟨g, 0, none⟩ ∧ lo ≤ g ∧ g < w.heap.size := by
  obtain ⟨g, rfl⟩ : ∃ g, a1 = Option.some ⟨g, 0, none⟩ := by
    rcases h.1.2 with ⟨q, _⟩ | ⟨g, cap, cur, hv, _⟩
    · injection q; omega
    · injection hv with h1 h2 h3; exact ⟨_, h1⟩
  exact ⟨g, rfl, ownr_block h.1 _ rfl⟩
set_option maxHeartbeats 8000000 in
set_option maxRecDepth 100000 in
theorem impl_rowOf {w : World} {A : Option Addr} {n c B : Nat} {ps : List Pth} {A2 : Option Addr} {n2 c2 B2 : Nat} {p : List Prt} (I : PlnIn w A n c B ps A2 n2 c2 B2 p) (hp : isPlan ps p = true) {lo0 : Nat} {a1 : Option Addr} {q1 : Nat} {a2 : Option Addr} {q2 : Nat} (hP : PhsIn w lo0 ps p n2 a1 q1 a2 q2) (i : Nat) (hi : i < n) :
    Calls Tryd.prog 72 #[.agg (t16 A n c (rowSt ps n 0) (.slice a1 n2 q1) (.slice a2 n2 q2) (sumTo ps p n2)), .int .i64 (i : Nat)] w fun e w' => ∃ v, e = .returned v ∧ w'.ownsRow w.heap.size 3 1 v (rowTo ps p (idAt ps i) n2).length ((rowTo ps p (idAt ps i) n2).map (Value.int .i64)) ∧ Below w.heap.size w w' := by
  have hl := I.len
  have hlp := I.lenp
  obtain ⟨⟨h1, h6⟩, ha, _, _⟩ := isPlan_parts hp
  have h12 := arePs_len12 ha
  obtain ⟨g1, rfl, hg1⟩ := hP.some (by omega)
  have hsb := sumTo_bound hp n2 (by omega)
  have hC : sumTo ps p n2 = ((sumTo ps p n2).toNat : Int) := by omega
  have HC := Lib.hid hC
  have HP := Lib.hid hp
  have HPH := Lib.hid hP
  have HI := Lib.hid I
  obtain ⟨ad, pp, rfl, hab, hpp, hq⟩ := I.h.at hi
  have hab2 : (ad.add (i * 4)).block < w.heap.size := Nat.lt_of_lt_of_le hab I.hB
  have hpa := pAt_some hpp
  obtain ⟨pid, pkd, pfr, pto⟩ := pp
  have HQ := Lib.hid hq
  have HPA := Lib.hid hpa
  have HTC : Hid (∀ W, Below w.heap.size w W → Clrs W) := Lib.hid (fun W hW => I.ht.below hW (Nat.le_refl _))
  obtain ⟨pw, hpw⟩ : ∃ pw, pw = 2 ^ i := ⟨_, rfl⟩
  have HPW := Lib.hid hpw
  have hmb := fun W => impl_maskBit i W (by omega)
  rw [← hpw] at hmb
  have HMB := Lib.hid hmb
  have HRL := Lib.hid (fun k (hk : k ≤ n2) => rowTo_len hp (idAt ps i) k (by omega))
  have HSB := Lib.hid (fun k (hk : k ≤ n2) => sumTo_bound hp k (by omega))
  clear hq hpa hpw hmb hab
  generalize hL : sumTo ps p n2 = L at *
  clear hp hP I hC
  unfold t16
  generalize hf : rowSt ps n 0 = f at *
  clear hf
  obtain ⟨wA, hwA⟩ : ∃ wA, wA = w.alloc (.cells #[.slice (some ad) n c, .int .u16 (f 0 : Nat), .int .u16 (f 1 : Nat), .int .u16 (f 2 : Nat), .int .u16 (f 3 : Nat), .int .u16 (f 4 : Nat), .int .u16 (f 5 : Nat), .int .u16 (f 6 : Nat), .int .u16 (f 7 : Nat), .int .u16 (f 8 : Nat), .int .u16 (f 9 : Nat), .int .u16 (f 10 : Nat), .int .u16 (f 11 : Nat), .slice (some ⟨g1, 0, none⟩) n2 q1, .slice a2 n2 q2, .int .i64 L] 95) := ⟨_, rfl⟩
  obtain ⟨hk0, hsz, hbw⟩ := one_block hwA
  have hszl : w.heap.size < wA.heap.size := by omega
  have HK0 := Lib.hid hk0
  have HBW := Lib.hid hbw
  have HWA := Lib.hid hwA
  have HTC2 : Hid (∀ W, Below wA.heap.size wA W → Clrs W) := Lib.hid (fun W hW => HTC.out W (hbw.trans (hW.mono (by omega))))
  clear hk0 hbw hwA hsz
  go_enter Tryd.func72, Tryd.ntmps72
  go_wp2_with ((with_reducible show wpList _ _ _ _ _ _); rw [← HWA.out]; refine wpList_mk0 rfl _ _ _ rfl .i64 3 8 Tryd.underlying98 info_int1 (by decide) L L.toNat rfl rfl HC.out (by omega) ?_; intro w1 hown hgrow; have hs1 := hgrow.size; have hb1 := below_grown hgrow; have hk1 := (hb1.block w.heap.size (by omega)).trans HK0.out; have c13 := fun o => (cell_of_row _ _ 13 _ _ _ (heap_old w1 o hk1)).trans rfl)
  obtain ⟨v0, hv0⟩ : ∃ v0, v0 = Value.slice (some ⟨wA.heap.size, 0, none⟩) 0 L.toNat := ⟨_, rfl⟩
  have hR2 : RowAt (w1.alloc (.cells #[.slice (some ⟨wA.heap.size, 0, none⟩) 0 L.toNat] 98)) wA.heap.size w1.heap.size (.slice (some ⟨wA.heap.size, 0, none⟩) 0 L.toNat) [] := by
    refine ⟨World.ownsRow_lit (base := wA.heap.size) (e := 98) (size := 1) w1 #[.slice (some ⟨wA.heap.size, 0, none⟩) 0 L.toNat] 1 hs1 (by decide) rfl, ?_⟩
    have h2 := ownr_below hown ((Below.refl _ _).alloc (Nat.le_refl _) (.cells #[.slice (some ⟨wA.heap.size, 0, none⟩) 0 L.toNat] 98))
    exact h2
  have hB2 := Lib.hid (hb1.alloc hs1 (.cells #[.slice (some ⟨wA.heap.size, 0, none⟩) 0 L.toNat] 98))
  have HR2 := Lib.hid hR2
  clear hown hgrow hk1 c13 hR2 hv0 hb1
  go_loopw [16] (fun i' wr => ∃ (k : Nat) (u : Value), k ≤ n2 ∧ i' = .int .i64 k ∧ RowAt wr wA.heap.size w1.heap.size u (rowTo ps p (idAt ps i) k) ∧ Below wA.heap.size wA wr) (fun i' _ => n2 - (intOf i').toNat)
  case atStart => exact ⟨0, _, Nat.zero_le _, rfl, HR2.out, hB2.out⟩
  case round =>
    clear HR2 hB2
    obtain ⟨k, u, hk, rfl, hrow, hbl⟩ := hrel
    have hsz2 := hbl.size
    have HR := Lib.hid hrow
    have HBL := Lib.hid hbl
    have hglt := hrow.lt
    clear hrow hbl
    by_cases hlt : k < n2
    · have HBW2 := Lib.hid (HBW.out.trans (HBL.out.mono (by omega)))
      have hph := HPH.out.below HBW2.out
      obtain ⟨q1, q2, q3, q4⟩ := okPhs HP.out (j := k) (by omega)
      have hsr := show_row HP.out (j := k) (i := i) (by omega) (by omega)
      rw [HPA.out] at hsr
      have HLEN : Hid ((rowTo ps p (idAt ps i) k).length ≤ 100000) := Lib.hid (by have := HRL.out k hk; have := HSB.out k hk; omega)
      have HSR := Lib.hid hsr
      have hce := fun d hd => hph.cells hlt d hd
      generalize hphs : phsAt ps p k = ph at *
      obtain ⟨o, x, gr, cl, le⟩ := ph
      simp only at q1 q2 q3 q4
      have e0 : wr.cell? ⟨g1, k * 5, none⟩ = some (.int .u16 (o : Nat)) := hce 0 (by decide)
      have e1 : wr.cell? ⟨g1, k * 5 + 1, none⟩ = some (.int .u16 (x : Nat)) := hce 1 (by decide)
      have e2 : wr.cell? ⟨g1, k * 5 + 2, none⟩ = some (.int .i64 gr) := hce 2 (by decide)
      have e3 : wr.cell? ⟨g1, k * 5 + 3, none⟩ = some (.int .i64 cl) := hce 3 (by decide)
      have e4 : wr.cell? ⟨g1, k * 5 + 4, none⟩ = some (.int .i64 le) := hce 4 (by decide)
      clear hce hph hphs hsr
      go_wp2
      obtain ⟨w3, hw3⟩ : ∃ w3, w3 = wr.alloc (.cells #[.int .u16 (o : Nat), .int .u16 (x : Nat), .int .i64 gr, .int .i64 cl, .int .i64 le] 114) := ⟨_, rfl⟩
      obtain ⟨hp3, hs3, hb3⟩ := one_block hw3
      rw [← hw3]
      clear hw3 e0 e1 e2 e3 e4
      have z0 : wA.cell? ⟨w.heap.size, 0, none⟩ = some (.slice (some ad) n c) := (cell_of_row _ _ 0 _ _ _ HK0.out).trans rfl
      have hW3 := HBL.out.trans (hb3.mono hsz2)
      have hub : ∀ b, u.ownBlock = some b → b < wr.heap.size := fun b e => (ownr_block HR.out.2 b e).2
      have HUB := Lib.hid hub
      have HSD : Hid (Below wA.heap.size wA w3.drew ∧ w3.drew.heap[wr.heap.size]? = some (.cells #[.int .u16 (o : Nat), .int .u16 (x : Nat), .int .i64 gr, .int .i64 cl, .int .i64 le] 114)) := Lib.hid ⟨below_drewD hW3, hp3⟩
      have HB3 := Lib.hid (below_drewD hb3)
      have hs3' : wr.heap.size < w3.drew.heap.size := by show _ < w3.heap.size; omega
      clear hub hW3 hb3 hp3 hs3
      have i1 : (0 : Int) ≤ (i : Int) := by omega
      have i2 : (i : Int) < (n : Int) := by omega
      refine wp_region_held_drew (S := fun W => Below wA.heap.size wA W ∧ W.heap[wr.heap.size]? = some (.cells #[.int .u16 (o : Nat), .int .u16 (x : Nat), .int .i64 gr, .int .i64 cl, .int .i64 le] 114)) (by kernel_rfl) HSD.out (fun hH => ?_)
      refine wpAnyH_take (i := 0) (v := .agg #[.int .u16 (o : Nat), .int .u16 (x : Nat), .int .i64 gr, .int .i64 cl, .int .i64 le]) rfl (by kernel_rfl) (by kernel_rfl) (by kernel_rfl) (fun _ _ _ h => h) (Or.inl ⟨by rfl, by intro W hSw; have y0 : W.cell? ⟨wr.heap.size, 0, none⟩ = some (.int .u16 (o : Nat)) := (cell_of_row _ _ 0 _ _ _ hSw.2).trans rfl; have y1 : W.cell? ⟨wr.heap.size, 1, none⟩ = some (.int .u16 (x : Nat)) := (cell_of_row _ _ 1 _ _ _ hSw.2).trans rfl; have y2 : W.cell? ⟨wr.heap.size, 2, none⟩ = some (.int .i64 gr) := (cell_of_row _ _ 2 _ _ _ hSw.2).trans rfl; have y3 : W.cell? ⟨wr.heap.size, 3, none⟩ = some (.int .i64 cl) := (cell_of_row _ _ 3 _ _ _ hSw.2).trans rfl; have y4 : W.cell? ⟨wr.heap.size, 4, none⟩ = some (.int .i64 le) := (cell_of_row _ _ 4 _ _ _ hSw.2).trans rfl; clear hSw; go_simp⟩) hH ?_
      try simp only [Act.put, List.setIfInBounds_toArray, List.set_cons_zero, List.set_cons_succ]
      refine wpAnyH_take (i := 1) (v := .int .i64 (i : Nat)) rfl (by kernel_rfl) (by kernel_rfl) (by kernel_rfl) (fun _ _ _ h => h) (Or.inl ⟨by rfl, by intro W hSw; go_simp⟩) hH ?_
      try simp only [Act.put, List.setIfInBounds_toArray, List.set_cons_zero, List.set_cons_succ]
      refine wpAnyH_take (i := 3) (v := .pointer (some ⟨w.heap.size, 0, none⟩)) rfl (by kernel_rfl) (by kernel_rfl) (by kernel_rfl) (fun _ _ _ h => h) (Or.inl ⟨by rfl, by intro W hSw; go_simp⟩) hH ?_
      try simp only [Act.put, List.setIfInBounds_toArray, List.set_cons_zero, List.set_cons_succ]
      refine wpAnyH_take (i := 4) (v := .pointer (some ⟨w.heap.size, 0, none⟩)) rfl (by kernel_rfl) (by kernel_rfl) (by kernel_rfl) (fun _ _ _ h => h) (Or.inl ⟨by rfl, by intro W hSw; go_simp⟩) hH ?_
      try simp only [Act.put, List.setIfInBounds_toArray, List.set_cons_zero, List.set_cons_succ]
      refine wpAnyH_take (i := 5) (v := .slice (some ad) n c) rfl (by kernel_rfl) (by kernel_rfl) (by kernel_rfl) (fun _ _ _ h => h) (Or.inl ⟨by rfl, by intro W hSw; have y0 : W.cell? ⟨w.heap.size, 0, none⟩ = some (.slice (some ad) n c) := (hSw.1.cell (p := ⟨w.heap.size, 0, none⟩) hszl).trans z0; clear hSw; go_simp⟩) hH ?_
      try simp only [Act.put, List.setIfInBounds_toArray, List.set_cons_zero, List.set_cons_succ]
      refine wpAnyH_take (i := 6) (v := .int .i64 (i : Nat)) rfl (by kernel_rfl) (by kernel_rfl) (by kernel_rfl) (fun _ _ _ h => h) (Or.inl ⟨by rfl, by intro W hSw; go_simp⟩) hH ?_
      try simp only [Act.put, List.setIfInBounds_toArray, List.set_cons_zero, List.set_cons_succ]
      refine wpAnyH_take (i := 7) (v := .pointer (some (ad.add (i * 4)))) rfl (by kernel_rfl) (by kernel_rfl) (by kernel_rfl) (fun _ _ _ h => h) (Or.inl ⟨by rfl, by intro W hSw; go_simp⟩) hH ?_
      try simp only [Act.put, List.setIfInBounds_toArray, List.set_cons_zero, List.set_cons_succ]
      refine wpAnyH_take (i := 8) (v := .agg #[.int .i64 pid, .int .i64 pkd, .int .i64 pfr, .int .i64 pto]) rfl (by kernel_rfl) (by kernel_rfl) (by kernel_rfl) (fun _ _ _ h => h) (Or.inl ⟨by rfl, by intro W hSw; have y := HQ.out.below (HBW.out.trans (hSw.1.mono (by omega))) hab2; have y0 := y.c0; have y1 := y.c1; have y2 := y.c2; have y3 := y.c3; simp only at y0 y1 y2 y3; clear y hSw; go_simp⟩) hH ?_
      try simp only [Act.put, List.setIfInBounds_toArray, List.set_cons_zero, List.set_cons_succ]
      refine wpAnyH_ready (rs := [2]) (by decide +kernel) (by simp) (AllReadyH.cons rfl (fun K hK => ?_) AllReadyH.nil)
      go_simp
      refine (HMB.out _).mono ?_
      rintro e w4 ⟨rfl, rfl⟩
      go_wp2_with fail
      refine hK.out _ _ hH (fun _ => ?_)
      clear hK K
      try simp only [Act.put, List.setIfInBounds_toArray, List.set_cons_zero, List.set_cons_succ]
      refine wpAnyH_ready (rs := [9]) (by decide +kernel) (by simp) (AllReadyH.cons rfl (fun K hK => ?_) AllReadyH.nil)
      go_simp
      refine (impl_ClearOf ⟨pid, pkd, pfr, pto⟩ _ (HTC2.out _ hH.1)).mono ?_
      rintro e w5 ⟨rfl, hb5⟩
      have hS5 : Below wA.heap.size wA w5 ∧ w5.heap[wr.heap.size]? = some (.cells #[.int .u16 (o : Nat), .int .u16 (x : Nat), .int .i64 gr, .int .i64 cl, .int .i64 le] 114) := ⟨hH.1.trans (hb5.mono hH.1.size), (hb5.block _ hs3').trans hH.2⟩
      have HB5 := Lib.hid (HB3.out.trans (hb5.mono HB3.out.size))
      have hs5 : wr.heap.size < w5.heap.size := Nat.lt_of_lt_of_le hs3' hb5.size
      clear hb5
      go_wp2_with fail
      refine hK.out _ _ hS5 (fun _ => ?_)
      clear hK K hH
      try simp only [Act.put, List.setIfInBounds_toArray, List.set_cons_zero, List.set_cons_succ]
      have HSH := Lib.hid (impl_showTo ⟨o, x, gr, cl, le⟩ w1.heap.size wA.heap.size u _ i (clearN ⟨pid, pkd, pfr, pto⟩) w5 (HR.out.below HB5.out) q1 q2 (by omega) q3 q4 (by have := clearN_bound ⟨pid, pkd, pfr, pto⟩; omega) HLEN.out)
      rw [← HPW.out] at HSH
      rw [show (Phs.cells ⟨o, x, gr, cl, le⟩).toArray = #[.int .u16 (o : Nat), .int .u16 (x : Nat), .int .i64 gr, .int .i64 cl, .int .i64 le] from rfl, HSR.out] at HSH
      refine wpAnyH_ready (rs := [10]) (by decide +kernel) (by simp) (AllReadyH.cons rfl (fun K hK => ?_) AllReadyH.nil)
      go_simp
      refine HSH.out.mono ?_
      rintro e w6 ⟨rfl, u6, hr6, hk6⟩
      have hS6 : Below wA.heap.size wA w6 ∧ w6.heap[wr.heap.size]? = some (.cells #[.int .u16 (o : Nat), .int .u16 (x : Nat), .int .i64 gr, .int .i64 cl, .int .i64 le] 114) := ⟨hS5.1.trans hk6.below, (hk6.block _ hs5 (by omega) (fun e => by have := HUB.out _ e; omega)).trans hS5.2⟩
      have HR6 := Lib.hid hr6
      have HB6 := Lib.hid hS6.1
      clear hk6 hr6
      go_wp2_with fail
      refine hK.out _ _ hS6 (fun _ => ?_)
      clear hK K
      try simp only [Act.put, List.setIfInBounds_toArray, List.set_cons_zero, List.set_cons_succ]
      refine wpAnyH_done (by decide +kernel) ?_ _
      clear hS5 hS6 z0
      go_wp2
      go_roundw
      case rel => exact ⟨k + 1, u6, by omega, by go_num, HR6.out, HB6.out⟩
      case measure => simp [intOf]; omega
    · obtain rfl : k = n2 := by omega
      have c0 := HR.out.cell
      obtain ⟨Au, cu, rfl⟩ := ownr_sliced HR.out.2
      have hout := Lib.hid (ownr_mono HR.out.2 (lo' := w.heap.size) (by omega))
      go_wp2
      go_ret
      exact ⟨_, rfl, hout.out, HBW.out.trans (HBL.out.mono (by omega))⟩
end Go.Proofs.YtcbccbefkpklkaaDoor

/- The program's functions over rows of lights: rowFor, at, greens, longestWait; LightAt, GreenOf, WaitOf. -/
namespace Go.Proofs.YtcbccbefkpklkaaDoor
open Go.RowKit
set_option linter.unusedVariables false

theorem rowP_on {ps : List Pth} {p : List Prt} {id : Int} (hp : isPlan ps p = true) {i : Nat} (hi : findK id ps = some i) : rowP ps p id = rowTo ps p id p.length := by
  unfold rowP
  rw [hp, hi]
  rfl
theorem rowP_off {ps : List Pth} {p : List Prt} {id : Int} (h : (isPlan ps p && (findK id ps).isSome) = false) : rowP ps p id = [] := by
  unfold rowP
  rw [h]
  rfl
theorem find_neg {ps : List Pth} {id : Int} (h : findK id ps = none) : findI id ps = -1 := by unfold findI; rw [h]
theorem find_pos {ps : List Pth} {id : Int} {i : Nat} (h : findK id ps = some i) : findI id ps = (i : Int) := by unfold findI; rw [h]
set_option maxHeartbeats 4000000 in
set_option maxRecDepth 100000 in
theorem impl_rowFor {w : World} {A : Option Addr} {n c B : Nat} {ps : List Pth} {A2 : Option Addr} {n2 c2 B2 : Nat} {p : List Prt} (I : PlnIn w A n c B ps A2 n2 c2 B2 p) (id : Int) :
    Calls Tryd.prog 91 #[.slice A n c, .slice A2 n2 c2, .int .i64 id] w fun e w' => ∃ v, e = .returned (.tuple #[v, .bool (isPlan ps p && (findK id ps).isSome)]) ∧ w'.ownsRow w.heap.size 3 1 v (rowP ps p id).length ((rowP ps p id).map (Value.int .i64)) ∧ Below w.heap.size w w' := by
  cases hp : isPlan ps p
  · have H := impl_timePlan_off I hp
    unfold t16 at H
    have HC := Lib.hid H
    have HR := Lib.hid (rowP_off (ps := ps) (p := p) (id := id) (by rw [hp]; rfl))
    have HF := Lib.hid (fun W (hW : Below w.heap.size w W) => impl_FindPath A n c B ps id W (I.below hW).h (I.below hW).hB I.hn4)
    clear H hp I
    go_enter Tryd.func91, Tryd.ntmps91
    go_wp2_with fail
    refine HC.out.mono ?_
    rintro e w1 ⟨rfl, hb⟩
    obtain ⟨w2, hw2⟩ : ∃ w2, w2 = w1.alloc (.cells #[.slice none 0 0, .int .u16 0, .int .u16 0, .int .u16 0, .int .u16 0, .int .u16 0, .int .u16 0, .int .u16 0, .int .u16 0, .int .u16 0, .int .u16 0, .int .u16 0, .int .u16 0, .slice none 0 0, .slice none 0 0, .int .i64 0] 95) := ⟨_, rfl⟩
    have hb2 : Below w.heap.size w w2 := by rw [hw2]; exact hb.alloc hb.size _
    have HB2 := Lib.hid hb2
    clear hb hb2
    go_wp2_with fail
    rw [← hw2]
    clear hw2
    refine (HF.out w2 HB2.out).mono ?_
    rintro e w3 ⟨rfl, hb3⟩
    have HB3 := Lib.hid (HB2.out.trans (hb3.mono HB2.out.size))
    clear hb3
    go_wp2
    go_ret2
    exact ⟨_, rfl, by rw [HR.out]; exact ownr_nil _ _ _ _, HB3.out⟩
  · have H := impl_timePlan_on I hp
    unfold t16 at H
    have HC := Lib.hid H
    have HF := Lib.hid (fun W (hW : Below w.heap.size w W) => impl_FindPath A n c B ps id W (I.below hW).h (I.below hW).hB I.hn4)
    have HP := Lib.hid hp
    have HI := Lib.hid I
    clear H hp I
    go_enter Tryd.func91, Tryd.ntmps91
    go_wp2_with fail
    refine HC.out.mono ?_
    rintro e w1 ⟨a1, q1, a2, q2, rfl, hphs, hb⟩
    obtain ⟨w2, hw2⟩ : ∃ w2, w2 = w1.alloc (.cells (t16 A n c (rowSt ps n 0) (.slice a1 n2 q1) (.slice a2 n2 q2) (sumTo ps p n2)) 95) := ⟨_, rfl⟩
    have hX2 : w2.heap[w1.heap.size]? = some (.cells (xcells A n c (rowSt ps n 0) ++ [Value.slice a1 n2 q1, .slice a2 n2 q2, .int .i64 (sumTo ps p n2)]).toArray 95) := by rw [hw2, t16_list]; exact heap_alloc_new _ _
    have hb12 : Below w1.heap.size w1 w2 := by rw [hw2]; exact (Below.refl _ _).alloc (Nat.le_refl _) _
    have hlt2 : w1.heap.size < w2.heap.size := by rw [hw2]; simp
    have HB2 := Lib.hid (hb.trans (hb12.mono hb.size))
    have HPH2 := Lib.hid (hphs.below hb12)
    have HX2 := Lib.hid hX2
    unfold t16 at hw2
    clear hb hb12 hphs hX2
    go_wp2_with fail
    rw [← hw2]
    clear hw2
    refine (HF.out w2 HB2.out).mono ?_
    rintro e w3 ⟨rfl, hb3⟩
    have HB3 := Lib.hid (HB2.out.trans (hb3.mono HB2.out.size))
    have HPH3 := Lib.hid (HPH2.out.below hb3)
    have HX3 := Lib.hid ((hb3.block _ hlt2).trans HX2.out)
    clear hb3
    cases hf : findK id ps
    · have HFK := Lib.hid hf
      have HN := Lib.hid (find_neg hf)
      have HR := Lib.hid (rowP_off (ps := ps) (p := p) (id := id) (by rw [HP.out, hf]; rfl))
      clear hf
      rw [HN.out]
      go_wp2
      go_ret2
      exact ⟨.slice none 0 0, by rw [HFK.out]; rfl, by rw [HR.out]; exact ownr_nil _ _ _ _, HB3.out⟩
    · rename_i i
      have HFK := Lib.hid hf
      have hir := findK_at hf
      have hid := idAt_find hf
      have HR := Lib.hid (rowP_on HP.out hf)
      rw [← hid.2] at HR
      have hi : i < n := by rw [← HI.out.lenp]; exact hid.1
      have hro := impl_rowOf (HI.out.below HB3.out) HP.out HPH3.out i hi
      rw [← t16_list] at hro
      have HRO := Lib.hid hro
      have hrng := range_block HX3.out
      have HNP := Lib.hid (find_pos hf)
      have HIDE := Lib.hid hid.2
      have HL2 := Lib.hid HI.out.len
      have hlen : (xcells A n c (rowSt ps n 0) ++ [Value.slice a1 n2 q1, .slice a2 n2 q2, .int .i64 (sumTo ps p n2)]).length = 16 := by rw [List.length_append, xcells_length]; rfl
      have hinf16 : (Tryd.prog.info? 95).map (·.size) = some (xcells A n c (rowSt ps n 0) ++ [Value.slice a1 n2 q1, .slice a2 n2 q2, .int .i64 (sumTo ps p n2)]).length := by rw [hlen]; exact info_timed
      have HLE := Lib.hid hlen
      clear hro hir hid hf hlen
      generalize xcells A n c (rowSt ps n 0) ++ [Value.slice a1 n2 q1, .slice a2 n2 q2, .int .i64 (sumTo ps p n2)] = cs at *
      rw [HNP.out]
      go_wp2_with ((with_reducible show wpList _ _ _ _ _ _); refine wpList_load_mid rfl 95 _ rfl w1.heap.size 0 rfl cs _ hrng Tryd.underlying95 rfl hinf16 ?_)
      refine HRO.out.mono ?_
      rintro e w4 ⟨v, rfl, hv, hb4⟩
      have HB4 := Lib.hid (HB3.out.trans (hb4.mono HB3.out.size))
      rw [← HL2.out, ← HR.out] at hv
      have HV := Lib.hid (ownr_mono hv HB3.out.size)
      clear hv hb4
      go_wp2
      go_ret2
      exact ⟨v, by rw [HFK.out]; rfl, by rw [HIDE.out] at HV; exact HV.out, HB4.out⟩
end Go.Proofs.YtcbccbefkpklkaaDoor

/- The program's rows of lights, asked: at, greens, longestWait; LightAt, GreenOf, WaitOf. -/
namespace Go.Proofs.YtcbccbefkpklkaaDoor
open Go.RowKit
set_option linter.unusedVariables false

/-- how many of the first k seconds are green. -/
def grnTo (r : List Int) : Nat → Int
  | 0 => 0
  | k + 1 => grnTo r k + if r.getD k 0 = 1 then 1 else 0
theorem grnTo_bound (r : List Int) : ∀ k : Nat, 0 ≤ grnTo r k ∧ grnTo r k ≤ k
  | 0 => by simp [grnTo]
  | k + 1 => by
    have ih := grnTo_bound r k
    unfold grnTo
    split <;> omega
theorem grnTo_all (r : List Int) : grnTo r r.length = ((r.filter fun x => decide (x = 1)).length : Int) := by
  have h : ∀ k, k ≤ r.length → grnTo r k = (((r.take k).filter fun x => decide (x = 1)).length : Int) := by
    intro k
    induction k with
    | zero => intro _; simp [grnTo]
    | succ k ih =>
      intro hk
      have e : r.getD k 0 = r[k] := by rw [List.getD_eq_getElem?_getD, List.getElem?_eq_getElem (by omega)]; rfl
      rw [List.take_succ_eq_append_getElem (by omega), List.filter_append, List.length_append]
      show grnTo r k + _ = _
      rw [ih (by omega), e]
      by_cases h1 : r[k] = 1
      · simp [h1]
      · simp [h1]
  have := h r.length (Nat.le_refl _)
  rwa [List.take_length] at this
theorem grn_sum {r : List Int} : ((r.filter fun x => decide (x = 1)).length : Int) = grnTo r r.length := (grnTo_all r).symm
theorem rowP_len {ps : List Pth} {p : List Prt} (id : Int) : (rowP ps p id).length ≤ 1000 := by
  unfold rowP
  split
  · rename_i h
    rw [Bool.and_eq_true] at h
    have := rowTo_len h.1 id p.length (Nat.le_refl _)
    have := sumTo_bound h.1 p.length (Nat.le_refl _)
    obtain ⟨⟨_, h6⟩, _⟩ := isPlan_parts h.1
    omega
  · simp
theorem rowP_pos {ps : List Pth} {p : List Prt} {id : Int} (h : (isPlan ps p && (findK id ps).isSome) = true) : ((rowP ps p id).length : Int) = sumTo ps p p.length ∧ 0 < (rowP ps p id).length := by
  have hl : ((rowP ps p id).length : Int) = sumTo ps p p.length := by
    unfold rowP
    rw [h]
    rw [Bool.and_eq_true] at h
    exact rowTo_len h.1 id p.length (Nat.le_refl _)
  rw [Bool.and_eq_true] at h
  have := sumTo_bound h.1 p.length (Nat.le_refl _)
  obtain ⟨⟨h6, _⟩, _⟩ := isPlan_parts h.1
  exact ⟨hl, by omega⟩
theorem impl_isSecR (n : Int) (w : World) : Calls Tryd.prog 88 #[.int .i64 n] w fun e w' => e = .returned (.bool (inB n 0 1000000)) ∧ w = w' := by
  go_enter Tryd.func88, Tryd.ntmps88
  go_wp2_with fail
  refine (impl_InRange _ _ _ _).mono ?_
  rintro e w1 ⟨rfl, rfl⟩
  go_wp2
  go_ret
  exact ⟨rfl, rfl⟩
set_option maxHeartbeats 2000000 in
theorem impl_rowAt (A : Option Addr) (n c B : Nat) (zs : List Int) (s : Nat) (w : World) (h : IntsAt .i64 w B A n zs) (h0 : 0 < n) (hn : n ≤ 1000000) (hs : s ≤ 1000000000) :
    Calls Tryd.prog 123 #[.slice A n c, .int .i64 (s : Nat)] w fun e w' => e = .returned (.int .i64 (zs.getD (s % n) 0)) ∧ w = w' := by
  obtain ⟨ad, rfl, hab, hcell⟩ := h.2 (by omega)
  have hc := hcell (s % n) (Nat.mod_lt _ h0)
  have e1 : ((s : Nat) : Int).tmod (n : Int) = ((s % n : Nat) : Int) := by rw [Int.tmod_eq_emod_of_nonneg (by omega), Int.natCast_emod]
  have z1 : ¬ n = 0 := by omega
  have z2 : ¬ (n : Int) = 0 := by omega
  have hlt : s % n < n := Nat.mod_lt _ h0
  clear hcell h
  generalize s % n = q at *
  have i1 : (0 : Int) ≤ (q : Int) := by omega
  have i2 : (q : Int) < (n : Int) := by omega
  generalize zs.getD q 0 = z at *
  go_enter Tryd.func123, Tryd.ntmps123
  go_wp2
  go_ret
  exact ⟨rfl, rfl⟩
set_option maxHeartbeats 4000000 in
theorem impl_longestW (A : Option Addr) (n c B : Nat) (zs : List Int) (w : World) (h : IntsAt .i64 w B A n zs) (hB : B ≤ w.heap.size) (hn : n ≤ 1000000) :
    Calls Tryd.prog 73 #[.slice A n c] w fun e w' => e = .returned (.int .i64 (waitTo zs (2 * n)).2) ∧ Below w.heap.size w w' := by
  have hl := h.1
  have H := Lib.hid h
  have hm2 : IntKind.i64.wrap (2 * (n : Int)) = ((2 * n : Nat) : Int) := by rw [IntKind.wrap_i64]; omega
  obtain ⟨m, hm⟩ : ∃ m, m = 2 * n := ⟨_, rfl⟩
  rw [← hm] at hm2 ⊢
  have HMM := Lib.hid hm
  have hmn : m ≤ 2000000 := by omega
  clear h hm
  go_enter Tryd.func73, Tryd.ntmps73
  go_wp2
  go_loopw [3, 4, 9] (fun x y i wr => ∃ (k : Nat) (q r : Int), k ≤ m ∧ i = .int .i64 k ∧ x = .int .i64 q ∧ y = .int .i64 r ∧ q = (waitTo zs k).2 ∧ r = (waitTo zs k).1 ∧ Below w.heap.size w wr) (fun _ _ i _ => m - (intOf i).toNat)
  case atStart => exact ⟨0, 0, 0, Nat.zero_le _, rfl, rfl, rfl, rfl, rfl, Below.refl _ _⟩
  case round =>
    obtain ⟨k, q, r, hk, rfl, rfl, rfl, hq, hr, hbl⟩ := hrel
    have HBL := Lib.hid hbl
    have hqb := waitTo_bound zs k
    rw [← hq, ← hr] at hqb
    obtain ⟨⟨hr1, hr2⟩, hq1, hq2⟩ := hqb
    by_cases hlt : k < m
    · have hn0 : 0 < n := by have := HMM.out; omega
      have HA := Lib.hid (impl_rowAt A n c B zs k wr (H.out.laid hB hbl) hn0 hn (by omega))
      have e9 : IntKind.i64.wrap (r + 1) = r + 1 := by rw [IntKind.wrap_i64]; omega
      by_cases h1 : zs.getD (k % n) 0 = 1
      · have HS : Hid ((waitTo zs (k + 1)).2 = maxI q 0 ∧ (waitTo zs (k + 1)).1 = 0) := Lib.hid (by unfold waitTo; rw [hl, if_pos h1, ← hq]; exact ⟨rfl, rfl⟩)
        have e0 : (zs.getD (k % n) 0 == 1) = true := by rw [h1]; rfl
        clear hq hr h1 hbl
        generalize zs.getD (k % n) 0 = z at *
        go_wp2_with fail
        refine HA.out.mono ?_
        rintro e w1 ⟨rfl, rfl⟩
        go_wp2_with fail
        refine (impl_Max _ _ _).mono ?_
        generalize maxI q 0 = mx at *
        rintro e w1 ⟨rfl, hb1⟩
        have HB1 := Lib.hid (HBL.out.trans (hb1.mono HBL.out.size))
        clear hb1
        go_wp2
        go_roundw
        case rel => exact ⟨k + 1, mx, 0, by omega, by go_num, rfl, rfl, HS.out.1.symm, HS.out.2.symm, HB1.out⟩
        case measure => simp [intOf]; omega
      · have HS : Hid ((waitTo zs (k + 1)).2 = maxI q (r + 1) ∧ (waitTo zs (k + 1)).1 = r + 1) := Lib.hid (by unfold waitTo; rw [hl, if_neg h1, ← hq, ← hr]; exact ⟨rfl, rfl⟩)
        have e0 : (zs.getD (k % n) 0 == 1) = false := by generalize zs.getD (k % n) 0 = z at h1; simpa using h1
        clear hq hr h1 hbl
        generalize zs.getD (k % n) 0 = z at *
        go_wp2_with fail
        refine HA.out.mono ?_
        rintro e w1 ⟨rfl, rfl⟩
        go_wp2_with fail
        refine (impl_Max _ _ _).mono ?_
        generalize maxI q (r + 1) = mx at *
        rintro e w1 ⟨rfl, hb1⟩
        have HB1 := Lib.hid (HBL.out.trans (hb1.mono HBL.out.size))
        clear hb1
        go_wp2
        go_roundw
        case rel => exact ⟨k + 1, mx, r + 1, by omega, by go_num, rfl, rfl, HS.out.1.symm, HS.out.2.symm, HB1.out⟩
        case measure => simp [intOf]; omega
    · obtain rfl : k = m := by omega
      have HR := Lib.hid hq
      clear hq hr hbl
      go_wp2
      go_ret
      exact ⟨by rw [← HR.out]; try rfl, HBL.out⟩
set_option maxHeartbeats 2000000 in
theorem impl_LightAt {w : World} {A : Option Addr} {n c B : Nat} {ps : List Pth} {A2 : Option Addr} {n2 c2 B2 : Nat} {p : List Prt} (I : PlnIn w A n c B ps A2 n2 c2 B2 p) (t id : Int) :
    Calls Tryd.prog 90 #[.slice A n c, .slice A2 n2 c2, .int .i64 t, .int .i64 id] w fun e w' => e = .returned (.int .i64 (lightP ps p t id)) ∧ Below w.heap.size w w' := by
  have HC := Lib.hid (impl_rowFor I id)
  have hlen := rowP_len (ps := ps) (p := p) id
  cases hb : (isPlan ps p && (findK id ps).isSome)
  · have HR : Hid (lightP ps p t id = 0) := Lib.hid (by
      unfold lightP
      rw [if_neg (by
        rw [Bool.and_eq_true, Bool.and_eq_true]
        rintro ⟨⟨h1, _⟩, h3⟩
        rw [h1, h3] at hb
        cases hb)])
    rw [hb] at HC
    clear I hb
    go_enter Tryd.func90, Tryd.ntmps90
    go_wp2_with fail
    refine HC.out.mono ?_
    rintro e w1 ⟨v, rfl, -, hb⟩
    have HB := Lib.hid hb
    clear hb
    go_wp2
    go_ret
    exact ⟨by rw [HR.out]; try rfl, HB.out⟩
  · obtain ⟨hrl, hr0⟩ := rowP_pos hb
    have HB0 := Lib.hid hb
    rw [hb] at HC
    clear I hb
    cases hin : inB t 0 1000000
    · have HR : Hid (lightP ps p t id = 0) := Lib.hid (by unfold lightP; rw [hin, Bool.and_false, Bool.false_and]; rfl)
      have HI := Lib.hid hin
      clear hin
      go_enter Tryd.func90, Tryd.ntmps90
      go_wp2_with fail
      refine HC.out.mono ?_
      rintro e w1 ⟨v, rfl, -, hb⟩
      have HB := Lib.hid hb
      clear hb
      go_wp2_with fail
      refine (impl_isSecR _ _).mono ?_
      rw [HI.out]
      rintro e w2 ⟨rfl, rfl⟩
      go_wp2
      go_ret
      exact ⟨by rw [HR.out]; try rfl, HB.out⟩
    · have hbb := (Bool.and_eq_true _ _).mp HB0.out
      have hlr := lightP_row hbb.1 hin hbb.2
      have ht := inB_t hin
      obtain ⟨s, rfl⟩ : ∃ s : Nat, t = (s : Int) := ⟨t.toNat, by omega⟩
      have HR : Hid (lightP ps p (s : Int) id = (rowP ps p id).getD (s % (rowP ps p id).length) 0) := Lib.hid (by rw [hlr, ← hrl]; congr 1)
      have HI := Lib.hid hin
      clear hin hlr hbb
      generalize rowP ps p id = zs at *
      go_enter Tryd.func90, Tryd.ntmps90
      go_wp2_with fail
      refine HC.out.mono ?_
      rintro e w1 ⟨v, rfl, hv, hb⟩
      obtain ⟨Av, cv, rfl⟩ := ownr_sliced hv
      have HIN := Lib.hid (Own.ints (k := .i64) (E := 3) hv)
      have HB := Lib.hid hb
      clear hv hb
      go_wp2_with fail
      refine (impl_isSecR _ _).mono ?_
      rw [HI.out]
      rintro e w2 ⟨rfl, rfl⟩
      go_wp2_with fail
      refine (impl_rowAt Av _ cv _ zs s w1 HIN.out hr0 (by omega) (by omega)).mono ?_
      rintro e w2 ⟨rfl, rfl⟩
      go_wp2
      go_ret
      exact ⟨by rw [HR.out]; try rfl, HB.out⟩
end Go.Proofs.YtcbccbefkpklkaaDoor

/- Chapter 9's model, the rest: l9Row, GreenOf, WaitOf. -/
namespace Go.Proofs.YtcbccbefkpklkaaDoor
open Go.RowKit
set_option linter.unusedVariables false

/-- the first k parts' lights and m of the next. -/
def rowS (ps : List Pth) (p : List Prt) (id : Int) (k m : Nat) : List Int := rowTo ps p id k ++ (List.range m).map fun (s : Nat) => lightJ ps p k s id
theorem rowS_zero (ps : List Pth) (p : List Prt) (id : Int) (k : Nat) : rowS ps p id k 0 = rowTo ps p id k := by simp [rowS]
theorem rowS_push (ps : List Pth) (p : List Prt) (id : Int) (k m : Nat) : rowS ps p id k (m + 1) = rowS ps p id k m ++ [lightJ ps p k m id] := by simp [rowS, List.range_succ]
theorem rowS_full {ps : List Pth} {p : List Prt} (id : Int) (k : Nat) {m : Nat} (h : (m : Int) = longAt ps p k) : rowS ps p id k m = rowTo ps p id (k + 1) := by
  unfold rowS
  show _ = rowTo ps p id k ++ rowJ ps p id k
  unfold rowJ
  rw [← h]
  rfl
theorem rowS_len {ps : List Pth} {p : List Prt} (h : isPlan ps p = true) (id : Int) {k m : Nat} (hk : k < p.length) (hm : (m : Int) ≤ longAt ps p k) : (rowS ps p id k m).length ≤ 1000 := by
  have h1 := rowTo_len h id k (by omega)
  have h2 := sumTo_bound h k (by omega)
  have h3 := longAt_bound h hk
  obtain ⟨⟨_, h6⟩, _⟩ := isPlan_parts h
  unfold rowS
  rw [List.length_append, List.length_map, List.length_range]
  omega
theorem rowP_fullM {ps : List Pth} {p : List Prt} {id : Int} (hp : isPlan ps p = true) {i : Nat} (hi : findK id ps = some i) : rowP ps p id = rowTo ps p id p.length := by
  unfold rowP
  rw [hp, hi]
  rfl
theorem rowP_offM {ps : List Pth} {p : List Prt} {id : Int} (h : (isPlan ps p && (findK id ps).isSome) = false) : rowP ps p id = [] := by
  unfold rowP
  rw [h]
  rfl
theorem find_negM {ps : List Pth} {id : Int} (h : findK id ps = none) : findI id ps = -1 := by unfold findI; rw [h]
theorem find_posM {ps : List Pth} {id : Int} {i : Nat} (h : findK id ps = some i) : findI id ps = (i : Int) := by unfold findI; rw [h]
set_option maxHeartbeats 4000000 in
theorem spec_l9Row (A : Option Addr) (n c B : Nat) (ps : List Pth) (A2 : Option Addr) (n2 c2 B2 : Nat) (p : List Prt) (id : Int) (w : World) (h : PthsAt w B A n ps) (hB : B ≤ w.heap.size) (hn : n ≤ 4294967296) (h2 : PrtsAt w B2 A2 n2 p) (hB2 : B2 ≤ w.heap.size) (hn2 : n2 ≤ 1048576) (hm : ∀ j, j < n2 → (prAt p j).stage.length ≤ 1048576) :
    Calls Tryd.prog 75 #[.slice A n c, .slice A2 n2 c2, .int .i64 id] w fun e w' => ∃ v, e = .returned v ∧ Own .i64 3 w' w.heap.size v (rowP ps p id) ∧ Below w.heap.size w w' := by
  have hl2 := h2.1
  have HIP := Lib.hid (fun x (hx : Below w.heap.size w x) => spec_IsPlan A n c B ps A2 n2 c2 B2 p x (h.below (hx.mono hB)) (Nat.le_trans hB hx.size) hn (h2.below hB2 hx) (Nat.le_trans hB2 hx.size) hn2 hm)
  have HFP := Lib.hid (fun x (hx : Below w.heap.size w x) => spec_FindPath A n c B ps id x (h.below (hx.mono hB)) hn)
  have HL8 := Lib.hid (fun k x (hx : Below w.heap.size w x) (hk : k < n2) hg => spec_l8Long A n c B ps A2 n2 c2 B2 p k x (h.below (hx.mono hB)) (Nat.le_trans hB hx.size) hn (h2.below hB2 hx) (Nat.le_trans hB2 hx.size) hn2 hm hk hg)
  have HL9 := Lib.hid (fun k s m x (hx : Below w.heap.size w x) (hk : k < n2) hf hs hg => spec_l9Light A n c B ps A2 n2 c2 B2 p k s id m x (h.below (hx.mono hB)) (Nat.le_trans hB hx.size) hn (h2.below hB2 hx) (Nat.le_trans hB2 hx.size) hn2 hm hk hf hs hg)
  have own0 := own_bare .i64 3 w
  have hb0 : Below w.heap.size w (w.alloc (.cells #[] 3)) := (Below.refl _ _).alloc (Nat.le_refl _) _
  have HO0 := Lib.hid own0
  have HB0 := Lib.hid hb0
  have HL2 := Lib.hid hl2
  clear h h2 hm own0 hb0 hl2
  cases hp : isPlan ps p
  · have HR := Lib.hid (rowP_offM (ps := ps) (p := p) (id := id) (by rw [hp]; rfl))
    have HP := Lib.hid hp
    clear hp
    go_enter Tryd.func75, Tryd.ntmps75
    go_wp2_with fail
    refine (HIP.out _ HB0.out).mono ?_
    rw [HP.out]
    rintro e w1 ⟨rfl, hb1⟩
    have HO1 := Lib.hid (HO0.out.below hb1)
    have HB1 := Lib.hid (HB0.out.trans (hb1.mono HB0.out.size))
    clear hb1
    go_wp2
    go_ret
    exact ⟨_, rfl, by rw [HR.out]; exact HO1.out, HB1.out⟩
  · have HP := Lib.hid hp
    clear hp
    cases hf : findK id ps
    · have HR := Lib.hid (rowP_offM (ps := ps) (p := p) (id := id) (by rw [HP.out, hf]; rfl))
      have HN := Lib.hid (find_negM hf)
      clear hf
      go_enter Tryd.func75, Tryd.ntmps75
      go_wp2_with fail
      refine (HIP.out _ HB0.out).mono ?_
      rw [HP.out]
      rintro e w1 ⟨rfl, hb1⟩
      have HO1 := Lib.hid (HO0.out.below hb1)
      have HB1 := Lib.hid (HB0.out.trans (hb1.mono HB0.out.size))
      clear hb1
      go_wp2_with fail
      refine (HFP.out _ HB1.out).mono ?_
      rw [HN.out]
      rintro e w2 ⟨rfl, rfl⟩
      go_wp2
      go_ret
      exact ⟨_, rfl, by rw [HR.out]; exact HO1.out, HB1.out⟩
    · rename_i q
      have HR := Lib.hid (rowP_fullM HP.out hf)
      have HN := Lib.hid (find_posM hf)
      have HF := Lib.hid hf
      rw [HL2.out] at HR
      clear hf
      go_enter Tryd.func75, Tryd.ntmps75
      go_wp2_with fail
      refine (HIP.out _ HB0.out).mono ?_
      rw [HP.out]
      rintro e w1 ⟨rfl, hb1⟩
      have HO1 := Lib.hid (HO0.out.below hb1)
      have HB1 := Lib.hid (HB0.out.trans (hb1.mono HB0.out.size))
      clear hb1
      go_wp2_with fail
      refine (HFP.out _ HB1.out).mono ?_
      rw [HN.out]
      rintro e w2 ⟨rfl, rfl⟩
      go_wp2
      go_loopw [7, 8] (fun v i wr => ∃ k : Nat, k ≤ n2 ∧ i = .int .i64 k ∧ Own .i64 3 wr w.heap.size v (rowTo ps p id k) ∧ Below w.heap.size w wr) (fun _ i _ => n2 - (intOf i).toNat)
      case atStart => exact ⟨0, Nat.zero_le _, rfl, HO1.out, HB1.out⟩
      case round =>
        clear HO1 HB1
        obtain ⟨k, hk, rfl, hown, hbl⟩ := hrel
        have HOW := Lib.hid hown
        have HBL := Lib.hid hbl
        clear hown hbl
        by_cases hlt : k < n2
        · have hg := plan_green HP.out (k := k) (by rw [HL2.out]; exact hlt)
          have HG := Lib.hid hg
          have hlb := longAt_bound HP.out (j := k) (by rw [HL2.out]; exact hlt)
          have HSL := Lib.hid (fun m hm => rowS_len HP.out id (k := k) (m := m) (by rw [HL2.out]; exact hlt) hm)
          have HSF := Lib.hid (fun m hm => rowS_full (ps := ps) (p := p) id k (m := m) hm)
          have HLL := Lib.hid (fun x (hx : Below w.heap.size w x) => HL8.out k x hx hlt hg)
          clear hg
          generalize longAt ps p k = lo at *
          obtain ⟨wo, rfl⟩ : ∃ wo : World, wo = wr := ⟨_, rfl⟩
          go_wp2
          go_loopw [7, 9] (fun v s wr => ∃ m : Nat, (m : Int) ≤ lo ∧ s = .int .i64 m ∧ Own .i64 3 wr w.heap.size v (rowS ps p id k m) ∧ Below w.heap.size w wr) (fun _ s _ => lo.toNat - (intOf s).toNat)
          case atStart => exact ⟨0, by omega, rfl, by rw [rowS_zero]; exact HOW.out, HBL.out⟩
          case round =>
            clear HOW HBL
            obtain ⟨m, hm, rfl, hown, hbl⟩ := hrel
            have HO2 := Lib.hid hown
            have HB2 := Lib.hid hbl
            clear hown hbl
            have HLC := Lib.hid (HLL.out wr HB2.out)
            go_wp2_with fail
            refine HLC.out.mono ?_
            rintro e w3 ⟨rfl, hb3⟩
            have hO3 := HO2.out.below hb3
            have hB3 := HB2.out.trans (hb3.mono HB2.out.size)
            have HO3 := Lib.hid hO3
            have HB3 := Lib.hid hB3
            clear hb3 hO3 hB3
            by_cases hlm : (m : Int) < lo
            · have HC9 := Lib.hid (HL9.out k (m : Int) q w3 HB3.out hlt HF.out (by omega) HG.out)
              have HPU := Lib.hid (rowS_push ps p id k m)
              have hsl := HSL.out m (by omega)
              generalize rowS ps p id k m = l at *
              generalize lightJ ps p k (m : Int) id = li at *
              go_wp2_with fail
              refine HC9.out.mono ?_
              rintro e w4 ⟨rfl, hb4⟩
              have hO4 := HO3.out.below hb4
              have hB4 := HB3.out.trans (hb4.mono HB3.out.size)
              have hs4 := hB4.size
              clear hb4
              go_wp2_with (at_builtin; refine wpList_app1 rfl _ _ 23 rfl .i64 3 8 Tryd.underlying23 info_i64 w.heap.size _ l rfl hO4 (by decide) (by omega) _ _ _ w4.heap.size hs4 rfl (by simp) ?_; intro v5 w5 hown5 hgrow5 hat5)
              have HB5 := Lib.hid (hO4.push (Nat.le_refl _) (hB4.alloc hs4 _) (by simp; omega) hgrow5)
              have HO5 := Lib.hid hown5
              clear hgrow5 hat5 hO4 hB4 hown5
              go_roundw
              case rel => exact ⟨m + 1, by omega, by go_num, by rw [HPU.out]; exact HO5.out, HB5.out⟩
              case measure => simp [intOf]; omega
            · have hmm : (m : Int) = lo := by omega
              have HO4 : Hid (Own .i64 3 w3 w.heap.size _ (rowTo ps p id (k + 1))) := Lib.hid (by rw [← HSF.out m hmm]; exact HO3.out)
              clear hmm
              go_wp2
              go_roundw
              case rel => exact ⟨k + 1, by omega, by go_num, HO4.out, HB3.out⟩
              case measure => simp [intOf]; omega
        · obtain rfl : k = n2 := by omega
          go_wp2
          go_ret
          exact ⟨_, rfl, by rw [HR.out]; exact HOW.out, HBL.out⟩
set_option maxHeartbeats 4000000 in
theorem spec_WaitOf (A : Option Addr) (n c B : Nat) (ps : List Pth) (A2 : Option Addr) (n2 c2 B2 : Nat) (p : List Prt) (id : Int) (w : World) (h : PthsAt w B A n ps) (hB : B ≤ w.heap.size) (hn : n ≤ 4294967296) (h2 : PrtsAt w B2 A2 n2 p) (hB2 : B2 ≤ w.heap.size) (hn2 : n2 ≤ 1048576) (hm : ∀ j, j < n2 → (prAt p j).stage.length ≤ 1048576) :
    Calls Tryd.prog 68 #[.slice A n c, .slice A2 n2 c2, .int .i64 id] w fun e w' => e = .returned (.int .i64 (waitP ps p id)) ∧ Below w.heap.size w w' := by
  have HC := Lib.hid (spec_l9Row A n c B ps A2 n2 c2 B2 p id w h hB hn h2 hB2 hn2 hm)
  have HR : Hid (waitP ps p id = minI (waitTo (rowP ps p id) (2 * (rowP ps p id).length)).2 (rowP ps p id).length) := Lib.hid rfl
  have hlen := rowP_len (ps := ps) (p := p) id
  clear h h2 hm hB hB2 hn hn2
  generalize rowP ps p id = zs at *
  go_enter Tryd.func68, Tryd.ntmps68
  go_wp2_with fail
  refine HC.out.mono ?_
  rintro e w1 ⟨v, rfl, hv, hb⟩
  obtain ⟨Av, cv, rfl⟩ := hv.sliced
  have hi := hv.ints
  have HB := Lib.hid hb
  clear hv hb
  obtain ⟨n3, hn3⟩ : ∃ n3, n3 = zs.length := ⟨_, rfl⟩
  rw [← hn3] at hi HR hlen ⊢
  clear hn3
  have hl := hi.1
  have HL := Lib.hid hl
  have HI := Lib.hid hi
  have hm2 : IntKind.i64.wrap (2 * (n3 : Int)) = ((2 * n3 : Nat) : Int) := by rw [IntKind.wrap_i64]; omega
  obtain ⟨m, hm⟩ : ∃ m, m = 2 * n3 := ⟨_, rfl⟩
  rw [← hm] at hm2 HR
  have HMM := Lib.hid hm
  have hmn : m ≤ 2000000 := by omega
  clear hm hl hi
  go_wp2
  go_loopw [8, 9, 10] (fun x y i wr => ∃ (k : Nat) (q r : Int), k ≤ m ∧ i = .int .i64 k ∧ x = .int .i64 q ∧ y = .int .i64 r ∧ q = (waitTo zs k).2 ∧ r = (waitTo zs k).1 ∧ w1 = wr) (fun _ _ i _ => m - (intOf i).toNat)
  case atStart => exact ⟨0, 0, 0, Nat.zero_le _, rfl, rfl, rfl, rfl, rfl, rfl⟩
  case round =>
    obtain ⟨k, q, r, hk, rfl, rfl, rfl, hq, hr, rfl⟩ := hrel
    have hqb := waitTo_bound zs k
    rw [← hq, ← hr] at hqb
    obtain ⟨⟨hr1, hr2⟩, hq1, hq2⟩ := hqb
    by_cases hlt : k < m
    · have hn0 : 0 < n3 := by have := HMM.out; omega
      obtain ⟨ad, rfl, hab, hcell⟩ := HI.out.2 (by omega)
      have hc := hcell (k % n3) (Nat.mod_lt _ hn0)
      have em : ((k : Nat) : Int).tmod (n3 : Int) = ((k % n3 : Nat) : Int) := by rw [Int.tmod_eq_emod_of_nonneg (by omega), Int.natCast_emod]
      have z1 : ¬ n3 = 0 := by omega
      have z2 : ¬ (n3 : Int) = 0 := by omega
      have hltm : k % n3 < n3 := Nat.mod_lt _ hn0
      have HL2 := HL.out
      clear hcell
      by_cases h1 : zs.getD (k % n3) 0 = 1
      · have HS : Hid ((waitTo zs (k + 1)).2 = maxI q 0 ∧ (waitTo zs (k + 1)).1 = 0) := Lib.hid (by unfold waitTo; rw [HL2, if_pos h1, ← hq]; exact ⟨rfl, rfl⟩)
        have e0 : (zs.getD (k % n3) 0 == 1) = true := by rw [h1]; rfl
        clear hq hr h1 HL2
        generalize zs.getD (k % n3) 0 = z at *
        generalize k % n3 = y at *
        have i1 : (0 : Int) ≤ (y : Int) := by omega
        have i2 : (y : Int) < (n3 : Int) := by omega
        go_wp2_with fail
        refine (spec_Max _ _ _).mono ?_
        generalize maxI q 0 = mx at *
        rintro e w2 ⟨rfl, rfl⟩
        go_wp2
        go_roundw
        case rel => exact ⟨k + 1, mx, 0, by omega, by go_num, rfl, rfl, HS.out.1.symm, HS.out.2.symm, trivial⟩
        case measure => simp [intOf]; omega
      · have HS : Hid ((waitTo zs (k + 1)).2 = maxI q (r + 1) ∧ (waitTo zs (k + 1)).1 = r + 1) := Lib.hid (by unfold waitTo; rw [HL2, if_neg h1, ← hq, ← hr]; exact ⟨rfl, rfl⟩)
        have e0 : (zs.getD (k % n3) 0 == 1) = false := by generalize zs.getD (k % n3) 0 = z at h1; simpa using h1
        clear hq hr h1 HL2
        generalize zs.getD (k % n3) 0 = z at *
        generalize k % n3 = y at *
        have i1 : (0 : Int) ≤ (y : Int) := by omega
        have i2 : (y : Int) < (n3 : Int) := by omega
        go_wp2_with fail
        refine (spec_Max _ _ _).mono ?_
        generalize maxI q (r + 1) = mx at *
        rintro e w2 ⟨rfl, rfl⟩
        go_wp2
        go_roundw
        case rel => exact ⟨k + 1, mx, r + 1, by omega, by go_num, rfl, rfl, HS.out.1.symm, HS.out.2.symm, trivial⟩
        case measure => simp [intOf]; omega
    · obtain rfl : k = m := by omega
      rw [← hq] at HR
      clear hq hr
      go_wp2_with fail
      refine (spec_Min _ _ _).mono ?_
      rintro e w2 ⟨rfl, rfl⟩
      go_wp2
      go_ret
      exact ⟨by rw [HR.out]; try rfl, HB.out⟩
end Go.Proofs.YtcbccbefkpklkaaDoor

/- WorstWait: the model and the program. -/
namespace Go.Proofs.YtcbccbefkpklkaaDoor
open Go.RowKit
set_option linter.unusedVariables false

/-- the greatest wait of the first k paths. -/
def worstTo (ps : List Pth) (p : List Prt) : Nat → Int
  | 0 => 0
  | k + 1 => maxI (worstTo ps p k) (waitP ps p (idAt ps k))
/-- what WorstWait answers. -/
def worstP (ps : List Pth) (p : List Prt) : Int := worstTo ps p ps.length
theorem waitP_off {ps : List Pth} {p : List Prt} (h : isPlan ps p = false) (id : Int) : waitP ps p id = 0 := by
  rw [wait_plain]
  have : rowP ps p id = [] := by unfold rowP; rw [h]; rfl
  rw [this]
  rfl
theorem worstTo_off {ps : List Pth} {p : List Prt} (h : isPlan ps p = false) : ∀ k, worstTo ps p k = 0
  | 0 => rfl
  | k + 1 => by
    unfold worstTo
    rw [worstTo_off h k, waitP_off h]
    rfl
set_option maxHeartbeats 2000000 in
theorem spec_WorstWait (A : Option Addr) (n c B : Nat) (ps : List Pth) (A2 : Option Addr) (n2 c2 B2 : Nat) (p : List Prt) (w : World) (h : PthsAt w B A n ps) (hB : B ≤ w.heap.size) (hn : n ≤ 4294967296) (h2 : PrtsAt w B2 A2 n2 p) (hB2 : B2 ≤ w.heap.size) (hn2 : n2 ≤ 1048576) (hm : ∀ j, j < n2 → (prAt p j).stage.length ≤ 1048576) :
    Calls Tryd.prog 23 #[.slice A n c, .slice A2 n2 c2] w fun e w' => e = .returned (.int .i64 (worstP ps p)) ∧ Below w.heap.size w w' := by
  have hl := h.1
  have HW := Lib.hid (fun id x (hx : Below w.heap.size w x) => spec_WaitOf A n c B ps A2 n2 c2 B2 p id x (h.below (hx.mono hB)) (Nat.le_trans hB hx.size) hn (h2.below hB2 hx) (Nat.le_trans hB2 hx.size) hn2 hm)
  have HR : Hid (worstP ps p = worstTo ps p n) := Lib.hid (by unfold worstP; rw [hl])
  clear h2 hm hl
  go_enter Tryd.func23, Tryd.ntmps23
  go_wp2
  go_loopw [5, 6] (fun x i wr => ∃ k : Nat, k ≤ n ∧ i = .int .i64 k ∧ x = .int .i64 (worstTo ps p k) ∧ Below w.heap.size w wr) (fun _ i _ => n - (intOf i).toNat)
  case atStart => exact ⟨0, Nat.zero_le _, rfl, rfl, Below.refl _ _⟩
  case round =>
    obtain ⟨k, hk, rfl, rfl, hbl⟩ := hrel
    have HBL := Lib.hid hbl
    have hsz := hbl.size
    by_cases hlt : k < n
    · obtain ⟨ad, q, rfl, hab, hp, hq⟩ := h.at hlt
      obtain ⟨c0, -, -, -⟩ := hq.below hbl (by omega)
      have hid : q.id = idAt ps k := by unfold idAt; rw [pAt_some hp]
      rw [hid] at c0
      have HC := Lib.hid (HW.out (idAt ps k) wr hbl)
      have HS : Hid (worstTo ps p (k + 1) = maxI (worstTo ps p k) (waitP ps p (idAt ps k))) := Lib.hid rfl
      have i1 : (0 : Int) ≤ (k : Int) := by omega
      have i2 : (k : Int) < (n : Int) := by omega
      clear hp hq hid hbl
      generalize waitP ps p (idAt ps k) = z at *
      generalize idAt ps k = id at *
      generalize worstTo ps p k = q at *
      go_wp2_with fail
      refine HC.out.mono ?_
      rintro e w1 ⟨rfl, hb1⟩
      have HB1 := Lib.hid (HBL.out.trans (hb1.mono hsz))
      clear hb1 c0
      go_wp2_with fail
      refine (spec_Max _ _ _).mono ?_
      rw [← HS.out]
      rintro e w2 ⟨rfl, rfl⟩
      go_wp2
      go_roundw
      case rel => exact ⟨k + 1, by omega, by go_num, rfl, HB1.out⟩
      case measure => simp [intOf]; omega
    · obtain rfl : k = n := by omega
      clear hbl
      go_wp2
      go_ret
      exact ⟨by rw [HR.out]; try rfl, HBL.out⟩
set_option maxHeartbeats 4000000 in
set_option maxRecDepth 100000 in
theorem impl_WorstWait {w : World} {A : Option Addr} {n c B : Nat} {ps : List Pth} {A2 : Option Addr} {n2 c2 B2 : Nat} {p : List Prt} (I : PlnIn w A n c B ps A2 n2 c2 B2 p) :
    Calls Tryd.prog 25 #[.slice A n c, .slice A2 n2 c2] w fun e w' => e = .returned (.int .i64 (worstP ps p)) ∧ Below w.heap.size w w' := by
  cases hp : isPlan ps p
  · have H := impl_timePlan_off I hp
    unfold t16 at H
    have HC := Lib.hid H
    have HR : Hid (worstP ps p = 0) := Lib.hid (worstTo_off hp _)
    clear H hp I
    go_enter Tryd.func25, Tryd.ntmps25
    go_wp2_with fail
    refine HC.out.mono ?_
    rintro e w1 ⟨rfl, hb⟩
    have HB := Lib.hid (hb.alloc hb.size (.cells #[.slice none 0 0, .int .u16 0, .int .u16 0, .int .u16 0, .int .u16 0, .int .u16 0, .int .u16 0, .int .u16 0, .int .u16 0, .int .u16 0, .int .u16 0, .int .u16 0, .int .u16 0, .slice none 0 0, .slice none 0 0, .int .i64 0] 95))
    clear hb
    go_wp2
    go_loopw [7, 19] (fun x i wr => x = .int .i64 0 ∧ i = .int .i64 0 ∧ Below w.heap.size w wr) (fun _ i _ => 0)
    case atStart => exact ⟨rfl, rfl, HB.out⟩
    case round =>
      obtain ⟨rfl, rfl, hbl⟩ := hrel
      go_wp2
      go_ret
      exact ⟨by rw [HR.out]; try rfl, hbl⟩
  · have H := impl_timePlan_on I hp
    unfold t16 at H
    have HC := Lib.hid H
    have HP := Lib.hid hp
    have HI := Lib.hid I
    have hlp := I.lenp
    have hn4 := I.hn4
    clear H hp I
    go_enter Tryd.func25, Tryd.ntmps25
    go_wp2_with fail
    refine HC.out.mono ?_
    rintro e w1 ⟨a1, q1, a2, q2, rfl, hphs, hb2⟩
    obtain ⟨w3, hw3⟩ : ∃ w3, w3 = w1.alloc (.cells (t16 A n c (rowSt ps n 0) (.slice a1 n2 q1) (.slice a2 n2 q2) (sumTo ps p n2)) 95) := ⟨_, rfl⟩
    have hX3 : w3.heap[w1.heap.size]? = some (.cells (xcells A n c (rowSt ps n 0) ++ [Value.slice a1 n2 q1, .slice a2 n2 q2, .int .i64 (sumTo ps p n2)]).toArray 95) := by rw [hw3, t16_list]; exact heap_alloc_new _ _
    have hb23 : Below w1.heap.size w1 w3 := by rw [hw3]; exact (Below.refl _ _).alloc (Nat.le_refl _) _
    have hlt3 : w1.heap.size < w3.heap.size := by rw [hw3]; simp
    have HB3 := Lib.hid (hb2.trans (hb23.mono hb2.size))
    have HPH3 := Lib.hid (hphs.below hb23)
    have HX3 := Lib.hid hX3
    have hlen : (xcells A n c (rowSt ps n 0) ++ [Value.slice a1 n2 q1, .slice a2 n2 q2, .int .i64 (sumTo ps p n2)]).length = 16 := by rw [List.length_append, xcells_length]; rfl
    have hinf16 : (Tryd.prog.info? 95).map (·.size) = some (xcells A n c (rowSt ps n 0) ++ [Value.slice a1 n2 q1, .slice a2 n2 q2, .int .i64 (sumTo ps p n2)]).length := by rw [hlen]; exact info_timed
    have HRO := Lib.hid (fun W (hW : Below w.heap.size w W) hP i (hi : i < n) => impl_rowOf (HI.out.below hW) HP.out (lo0 := w.heap.size) (a1 := a1) (q1 := q1) (a2 := a2) (q2 := q2) hP i hi)
    rw [← t16_list] at HRO
    have HWR : Hid (∀ i, i < n → waitP ps p (idAt ps i) = (waitTo (rowTo ps p (idAt ps i) n2) (2 * (rowTo ps p (idAt ps i) n2).length)).2) := Lib.hid (fun i hi => by
      have ha := (isPlan_parts HP.out).2.1
      have hrp : rowP ps p (idAt ps i) = rowTo ps p (idAt ps i) n2 := by unfold rowP; rw [HP.out, findK_of ha (by rw [hlp]; exact hi), HI.out.len]; rfl
      rw [wait_plain, hrp])
    have HRL := Lib.hid (fun i => rowTo_len HP.out (idAt ps i) n2 (by rw [HI.out.len]; exact Nat.le_refl _))
    have HSB := Lib.hid (sumTo_bound HP.out n2 (by rw [HI.out.len]; exact Nat.le_refl _))
    have HN1 : Hid (1 ≤ n2 ∧ n2 ≤ 6) := Lib.hid (by have := (isPlan_parts HP.out).1; rw [HI.out.len] at this; exact this)
    have HR : Hid (worstP ps p = worstTo ps p n) := Lib.hid (by unfold worstP; rw [hlp])
    unfold t16 at hw3
    clear hb23 hX3 hlen hb2 hphs
    go_wp2
    rw [← hw3]
    clear hw3
    generalize xcells A n c (rowSt ps n 0) ++ [Value.slice a1 n2 q1, .slice a2 n2 q2, .int .i64 (sumTo ps p n2)] = cs at *
    go_loopw [7, 19] (fun x i wr => ∃ k : Nat, k ≤ n ∧ i = .int .i64 k ∧ x = .int .i64 (worstTo ps p k) ∧ Below w3.heap.size w3 wr) (fun _ i _ => n - (intOf i).toNat)
    case atStart => exact ⟨0, Nat.zero_le _, rfl, rfl, Below.refl _ _⟩
    case round =>
      obtain ⟨k, hk, rfl, rfl, hbl⟩ := hrel
      have HX := Lib.hid ((hbl.block _ hlt3).trans HX3.out)
      have HBL := Lib.hid (HB3.out.trans (hbl.mono HB3.out.size))
      have HPH := Lib.hid (HPH3.out.below hbl)
      have HB0 := Lib.hid hbl
      have hsz := HBL.out.size
      clear hbl
      by_cases hlt : k < n
      · have hrng := range_block HX.out
        have HC5 := Lib.hid (HRO.out wr HBL.out HPH.out k hlt)
        have hrl := HRL.out k
        have HWK := Lib.hid (HWR.out k hlt)
        have hsb := HSB.out
        have hn1 := HN1.out
        have HS : Hid (worstTo ps p (k + 1) = maxI (worstTo ps p k) (waitP ps p (idAt ps k))) := Lib.hid rfl
        generalize waitP ps p (idAt ps k) = z at *
        generalize rowTo ps p (idAt ps k) n2 = zs at *
        generalize worstTo ps p k = q at *
        have hz1 : zs.length ≤ 1000 := by omega
        clear hrl hsb
        go_wp2_with ((with_reducible show wpList _ _ _ _ _ _); refine wpList_load_mid rfl 95 _ rfl w1.heap.size 0 rfl cs _ hrng Tryd.underlying95 rfl hinf16 ?_)
        refine HC5.out.mono ?_
        rintro e w4 ⟨v, rfl, hv, hb4⟩
        obtain ⟨Av, cv, rfl⟩ := ownr_sliced hv
        have HIV := Lib.hid (Own.ints (k := .i64) (E := 3) hv)
        have HB4 := Lib.hid (HB0.out.trans (hb4.mono HB0.out.size))
        clear hv hb4 hrng
        go_wp2_with fail
        refine (impl_longestW Av _ cv _ zs w4 HIV.out (Nat.le_refl _) (by omega)).mono ?_
        rw [← HWK.out]
        rintro e w5 ⟨rfl, hb5⟩
        have HB5 := Lib.hid (HB4.out.trans (hb5.mono HB4.out.size))
        clear hb5
        go_wp2_with fail
        refine (impl_Max _ _ _).mono ?_
        rw [← HS.out]
        rintro e w6 ⟨rfl, hb6⟩
        have HB6 := Lib.hid (HB5.out.trans (hb6.mono HB5.out.size))
        clear hb6
        go_wp2
        go_roundw
        case rel => exact ⟨k + 1, by omega, by go_num, rfl, HB6.out⟩
        case measure => simp [intOf]; omega
      · obtain rfl : k = n := by omega
        go_wp2
        go_ret
        exact ⟨by rw [HR.out]; try rfl, HBL.out⟩
end Go.Proofs.YtcbccbefkpklkaaDoor

/- The laws' helpers for rows of parts. -/
namespace Go.Proofs.YtcbccbefkpklkaaDoor
open Go.RowKit
set_option linter.unusedVariables false

set_option maxHeartbeats 1000000 in
theorem to_prt (A : Option Addr) (n c B : Nat) (ps : List Prt) (w : World) (h : PrtsAt w B A n ps) (hB : B ≤ w.heap.size) (hn : n ≤ 1048576) (hm : ∀ j, j < n → (prAt ps j).stage.length ≤ 1048576) :
    Calls Tryd.prog 24 #[.slice A n c] w fun e w' => e = .returned (.slice (some ⟨w.heap.size, 0, none⟩) n n) ∧ (∃ xs, OwnPr w' w.heap.size (.slice (some ⟨w.heap.size, 0, none⟩) n n) xs ps) ∧ Below w.heap.size w w' := by
  have hl := h.1
  go_enter Tryd.func24, Tryd.ntmps24
  go_wp2_with ((with_reducible show wpList _ _ _ _ _ _); refine wpList_mkR rfl _ _ _ rfl 89 _ 2 _ Tryd.underlying35 info_prt (by decide) (n : Int) (n : Int) n rfl rfl rfl rfl (by omega) ?_; intro w1 hown hgrow)
  rw [made_prt] at hown
  go_loopw [4] (fun i wr => ∃ (k : Nat) (xs : List (Value × Int)), k ≤ n ∧ xs.length = k ∧ i = .int .i64 k ∧ wr.ownsRow w.heap.size 89 2 (.slice (some ⟨w.heap.size, 0, none⟩) n n) n (prow xs ++ prow (List.replicate (n - xs.length) (.slice none 0 0, 0))) ∧
      (∀ j, j < k → ∃ u, xs[j]? = some (u, (prAt ps j).green) ∧ Own .i64 3 wr w.heap.size u (prAt ps j).stage) ∧ ApartL (xs.map (·.1)) ∧ Below w.heap.size w wr) (fun i _ => n - (intOf i).toNat)
  case atStart => exact ⟨0, [], Nat.zero_le _, rfl, rfl, by simpa [prow] using hown, fun j hj => absurd hj (by omega), ApartL.nil, below_grown hgrow⟩
  case round =>
    clear hown hgrow
    obtain ⟨k, xs, hk, hul, rfl, hrow, heach, hap, hbl⟩ := hrel
    have hsz := hbl.size
    by_cases hlt : k < n
    · obtain ⟨ad, A', m, c', rfl, hab, hq, hi, hmc, hnil⟩ := h.at hlt
      obtain ⟨q0, q1⟩ := hq.below hbl (by omega)
      have hml := hi.1
      have hmk := hm k hlt
      have hiw := hi.keep (w' := wr) (fun p hp => hbl.cell (by omega))
      clear hq hi
      obtain ⟨zs, hzs⟩ : ∃ zs, (prAt ps k).stage = zs := ⟨_, rfl⟩
      obtain ⟨g, hgr⟩ : ∃ g, (prAt ps k).green = g := ⟨_, rfl⟩
      rw [hzs] at hml hmk hiw
      rw [hgr] at q1
      have HZS := Lib.hid hzs
      have HG := Lib.hid hgr
      clear hzs hgr
      go_wp2_with fail
      refine (law_toPart A' m c' B zs g wr hiw (by omega) (by omega)).mono ?_
      rintro e w2 ⟨a, rfl, ho, hb2⟩
      have hrow2 := ownr_below hrow hb2
      obtain ⟨x0, hx0⟩ := ownr_some hrow2 (j := k * 2) (by omega)
      obtain ⟨x1, hx1⟩ := ownr_some hrow2 (j := k * 2 + 1) (by omega)
      have f0 := World.ownsRow.frozenAt hrow2
      have hst := (World.ownsRow.stored (World.ownsRow.stored hrow2 (k * 2) (.slice (some a) m m)).1 (k * 2 + 1) (.int .i64 g)).1
      have hb3 := hbl.trans (hb2.mono hsz)
      have hgs : w2.grownBy ((w2.setCell ⟨w.heap.size, k * 2, none⟩ (.slice (some a) m m)).setCell ⟨w.heap.size, k * 2 + 1, none⟩ (.int .i64 g)) (some w.heap.size) := only_setCell (only_setCell (World.grownBy.refl _ _) _ _) _ _
      have hkept : ∀ {x : Value} {xs : List Int} {l : Nat}, Own .i64 3 w2 l x xs → Own .i64 3 ((w2.setCell ⟨w.heap.size, k * 2, none⟩ (.slice (some a) m m)).setCell ⟨w.heap.size, k * 2 + 1, none⟩ (.int .i64 g)) l x xs := fun hx => hx.grown hgs (fun g hg e => own_apartP hx hrow2 g hg e)
      have hsn : xs.length < n := by omega
      rw [← hul, prow_next xs n _ (.slice (some a) m m, g) hsn, hul] at hst
      have HR := Lib.hid hst
      have HE : Hid (∀ j, j < k + 1 → ∃ u, (xs ++ [(.slice (some a) m m, g)])[j]? = some (u, (prAt ps j).green) ∧ Own .i64 3 ((w2.setCell ⟨w.heap.size, k * 2, none⟩ (.slice (some a) m m)).setCell ⟨w.heap.size, k * 2 + 1, none⟩ (.int .i64 g)) w.heap.size u (prAt ps j).stage) := Lib.hid (by
        intro j hj
        by_cases hjk : j < k
        · obtain ⟨u, h1, h2⟩ := heach j hjk
          exact ⟨u, by rw [List.getElem?_append_left (by omega)]; exact h1, hkept (h2.below hb2)⟩
        · obtain rfl : j = xs.length := by omega
          refine ⟨_, (List.getElem?_append_right (Nat.le_refl _)).trans (by rw [Nat.sub_self, show xs.length = k from hul, HG.out]; rfl), ?_⟩
          rw [show xs.length = k from hul, HZS.out]
          exact hkept (ho.mono hsz))
      have HA : Hid (ApartL ((xs ++ [((Value.slice (some a) m m), g)]).map (·.1))) := Lib.hid (by
        rw [List.map_append]
        refine hap.snoc (b := wr.heap.size) (fun x hx g hg => ?_) (fun g hg => (ho.block g hg).1)
        obtain ⟨y, hy, rfl⟩ := List.mem_map.1 hx
        obtain ⟨j, hj, rfl⟩ := List.getElem_of_mem hy
        obtain ⟨u, h1, h2⟩ := heach j (by omega)
        rw [List.getElem?_eq_getElem hj] at h1
        injection h1 with h1
        rw [h1] at hg
        exact (h2.block g hg).2)
      have HB := Lib.hid hb3
      clear hrow heach hap hbl hb2 hb3 hgs hkept hst hrow2 ho hiw
      go_wp2
      go_roundw
      case rel => exact ⟨k + 1, xs ++ [(.slice (some a) m m, g)], by omega, by rw [List.length_append, hul]; rfl, by go_num, HR.out, HE.out, HA.out, (HB.out.setCell (Nat.le_refl _) _).setCell (Nat.le_refl _) _⟩
      case measure => simp [intOf]; omega
    · obtain rfl : k = n := by omega
      rw [hul, Nat.sub_self, List.replicate_zero] at hrow
      have HO : Hid (OwnPr wr w.heap.size (.slice (some ⟨w.heap.size, 0, none⟩) k k) xs ps) := Lib.hid ⟨by rw [hl]; simpa [prow] using hrow, fun j hj => heach j (by omega), hap⟩
      clear hrow heach hap
      go_wp2
      go_ret
      exact ⟨rfl, ⟨xs, HO.out⟩, hbl⟩
set_option maxHeartbeats 1000000 in
theorem law_eqPart (A : Option Addr) (n c B : Nat) (zs : List Int) (g : Int) (A2 : Option Addr) (n2 c2 : Nat) (w : World) (h : IntsAt .i64 w B A n zs) (h2 : IntsAt .i64 w B A2 n2 zs) (hB : B ≤ w.heap.size) (hn : n ≤ 4398046511104) :
    Calls Tryd.prog 74 #[.agg #[.slice A n c, .int .i64 g], .agg #[.slice A2 n2 c2, .int .i64 g]] w fun e w' => e = .returned (.bool true) ∧ Below w.heap.size w w' := by
  have hl := h.1
  have hl2 := h2.1
  have hq := fun w' (hb : Below w.heap.size w w') => eqs_i64 A n c zs A2 n2 c2 w' ((h.laid hB hb).up (by have := hb.size; omega)) ((h2.laid hB hb).up (by have := hb.size; omega)) (by omega) (by omega)
  have hb0 := ((Below.refl w.heap.size w).alloc (Nat.le_refl _) (.cells #[.slice A n c, .int .i64 g] 89)).alloc (by simp) (.cells #[.slice A2 n2 c2, .int .i64 g] 89)
  have HQ := Lib.hid hq
  have HB0 := Lib.hid hb0
  clear hq hb0 h h2
  have e1 : (g != g) = false := by simp
  have e2 : (!(g == g)) = false := by simp
  go_enter Tryd.func74, Tryd.ntmps74
  go_wp2_with fail
  refine (HQ.out _ HB0.out).mono ?_
  rintro e w2 ⟨rfl, hb2⟩
  have HB := Lib.hid (HB0.out.trans (hb2.mono HB0.out.size))
  have k0 : w2.cell? ⟨w.heap.size, 1, none⟩ = some (.int .i64 g) := (hb2.cell (p := ⟨w.heap.size, 1, none⟩) (by simp; omega)).trans (by go_simp)
  have k1 : w2.cell? ⟨w.heap.size + 1, 1, none⟩ = some (.int .i64 g) := (hb2.cell (p := ⟨w.heap.size + 1, 1, none⟩) (by simp)).trans (by go_simp)
  clear hb2
  go_wp2
  go_ret
  exact ⟨rfl, HB.out⟩
set_option maxHeartbeats 1000000 in
theorem eqs_prt (A : Option Addr) (n c : Nat) (ps : List Prt) (A2 : Option Addr) (n2 c2 : Nat) (w : World) (h : PrtsAt w w.heap.size A n ps) (h2 : PrtsAt w w.heap.size A2 n2 ps) (hn : n ≤ 4398046511104) (hn2 : n2 ≤ 4398046511104) (hm : ∀ j, j < n → (prAt ps j).stage.length ≤ 4398046511104) :
    Calls Tryd.prog 26 #[.slice A n c, .slice A2 n2 c2] w fun e w' => e = .returned (.bool true) ∧ Below w.heap.size w w' := by
  have hl := h.1
  have hl2 := h2.1
  obtain rfl : n = n2 := by omega
  go_enter Tryd.func26, Tryd.ntmps26
  go_wp2
  go_loopw [5] (fun i wr => ∃ k : Nat, k ≤ n ∧ i = .int .i64 k ∧ Below w.heap.size w wr) (fun i _ => n - (intOf i).toNat)
  case atStart => exact ⟨0, Nat.zero_le _, rfl, Below.refl _ _⟩
  case round =>
    obtain ⟨k, hk, rfl, hbl⟩ := hrel
    have hsz := hbl.size
    by_cases hlt : k < n
    · obtain ⟨ad, A', m, c', rfl, hab, hq, hi, hmc, hnil⟩ := h.at hlt
      obtain ⟨ad2, A2', m2, c2', rfl, hab2, hq2, hi2, hmc2, hnil2⟩ := h2.at hlt
      have hqq := fun x (hx : Below wr.heap.size wr x) => (hq.below hbl (by omega)).below hx (by omega)
      have hqq2 := fun x (hx : Below wr.heap.size wr x) => (hq2.below hbl (by omega)).below hx (by omega)
      have hmk := hm k hlt
      have hml := hi.1
      have hml2 := hi2.1
      have hiw := hi.keep (w' := wr) (fun p hp => hbl.cell (by omega))
      have hiw2 := hi2.keep (w' := wr) (fun p hp => hbl.cell (by omega))
      clear hq hq2 hi hi2
      generalize (prAt ps k).stage = zs at *
      generalize (prAt ps k).green = g at *
      have hcc := fun x (hx : Below wr.heap.size wr x) => law_eqPart A' m c' w.heap.size zs g A2' m2 c2' x (hiw.keep (w' := x) fun p hp => hx.cell (by omega)) (hiw2.keep (w' := x) fun p hp => hx.cell (by omega)) (by have := hx.size; omega) (by omega)
      have x1 : (0 : Int) ≤ (k : Int) := by omega
      have x2 : (k : Int) < (n : Int) := by omega
      have hdr : Below wr.heap.size wr wr.drew := ⟨rfl, rfl, rfl, Nat.le_refl _, fun _ _ => rfl⟩
      obtain ⟨y0, y1⟩ := hqq _ hdr
      obtain ⟨z0, z1⟩ := hqq2 _ hdr
      have HQ := Lib.hid hcc
      have HC := Lib.hid hqq
      have HC2 := Lib.hid hqq2
      clear hqq hqq2 hcc hiw hiw2
      go_wp2
      go_region_held3 (fun W' => W'.cell? (ad.add (k * 2)) = some (.slice A' m c') ∧ W'.cell? ⟨(ad.add (k * 2)).block, (ad.add (k * 2)).off + 1, none⟩ = some (.int .i64 g) ∧ W'.cell? (ad2.add (k * 2)) = some (.slice A2' m2 c2') ∧ W'.cell? ⟨(ad2.add (k * 2)).block, (ad2.add (k * 2)).off + 1, none⟩ = some (.int .i64 g)) (first | exact ⟨y0, y1, z0, z1⟩ | exact ⟨hy.c0, hy.c1, hz.c0, hz.c1⟩ | fail "keep")
        (first
          | (go_at_call 74; refine (HQ.out _ hdr).mono ?_; rintro e w3 ⟨rfl, hb3⟩; have hb4 := hdr.trans hb3; have hy := HC.out _ hb4; have hz := HC2.out _ hb4))
      have HB := Lib.hid (hbl.trans (hb4.mono hsz))
      clear hb3 hb4 y0 z0 y1 z1 hy hz hbl HQ HC HC2 hdr
      go_wp2
      go_roundw
      case rel => exact ⟨k + 1, by omega, by go_num, HB.out⟩
      case measure => simp [intOf]; omega
    · obtain rfl : k = n := by omega
      go_wp2
      go_ret
      exact ⟨rfl, hbl⟩
theorem sz_part (A : Option Addr) (n c : Nat) (g : Int) (left : Int) (w : World) (hn : n ≤ 9223372036854775807) (hl : 0 ≤ left ∧ left ≤ 1048576) :
    Calls Tryd.prog 66 #[.agg #[.slice A n c, .int .i64 g], .int .i64 left] w fun e w' => e = .returned (.int .i64 (if (n : Int) ≤ left then left - (n : Int) else -1)) ∧ Below w.heap.size w w' := by
  have HB := Lib.hid ((Below.refl w.heap.size w).alloc (Nat.le_refl _) (.cells #[.slice A n c, .int .i64 g] 86))
  by_cases h : (n : Int) ≤ left
  · have hz := fun x => sz_ints A n c left x hn hl
    simp only [if_pos h] at hz ⊢
    have HZ := Lib.hid hz
    clear hz
    go_enter Tryd.func66, Tryd.ntmps66
    go_wp2_with fail
    refine (HZ.out _).mono ?_
    rintro e w' ⟨rfl, rfl⟩
    go_wp2
    go_ret
    exact ⟨rfl, HB.out⟩
  · have hz := fun x => sz_ints A n c left x hn hl
    simp only [if_neg h] at hz ⊢
    have HZ := Lib.hid hz
    clear hz
    go_enter Tryd.func66, Tryd.ntmps66
    go_wp2_with fail
    refine (HZ.out _).mono ?_
    rintro e w' ⟨rfl, rfl⟩
    go_wp2
    go_ret
    exact ⟨rfl, HB.out⟩
/-- what szPartS says. -/
def szSaidP (left : Int) (n : Nat) (ps : List Prt) (r : Int) : Prop := r < 0 ∨ (0 ≤ r ∧ r ≤ left ∧ (n : Int) ≤ left ∧ ∀ j, j < n → ((prAt ps j).stage.length : Int) ≤ left)
set_option maxHeartbeats 1000000 in
theorem sz_prt (A : Option Addr) (n c B : Nat) (ps : List Prt) (left : Int) (w : World) (h : PrtsAt w B A n ps) (hB : B ≤ w.heap.size) (hn : n ≤ 9223372036854775807) (hm : ∀ j, j < n → (prAt ps j).stage.length ≤ 9223372036854775807) (hl : 0 ≤ left ∧ left ≤ 1048576) :
    Calls Tryd.prog 22 #[.slice A n c, .int .i64 left] w fun e w' => (∃ r : Int, e = .returned (.int .i64 r) ∧ szSaidP left n ps r) ∧ Below w.heap.size w w' := by
  have hl0 := h.1
  obtain ⟨l1, l2⟩ := hl
  by_cases hlt0 : (n : Int) ≤ left
  · go_enter Tryd.func22, Tryd.ntmps22
    go_wp2
    go_loopw [1, 5] (fun r i wr => ∃ (k : Nat) (q : Int), k ≤ n ∧ i = .int .i64 k ∧ r = .int .i64 q ∧ 0 ≤ q ∧ q ≤ left ∧ (∀ j, j < k → ((prAt ps j).stage.length : Int) ≤ left) ∧ Below w.heap.size w wr) (fun _ i _ => n - (intOf i).toNat)
    case atStart => exact ⟨0, left - n, Nat.zero_le _, rfl, rfl, by omega, by omega, fun j hj => absurd hj (by omega), Below.refl _ _⟩
    case round =>
      obtain ⟨k, q, hk, rfl, rfl, hq0, hq1, hall, hbl⟩ := hrel
      have HALL := Lib.hid hall
      clear hall
      by_cases hlt : k < n
      · obtain ⟨ad, A', m, c', rfl, hab, hq, hi, hmc, hnil⟩ := h.at hlt
        obtain ⟨y0, y1⟩ := hq.below hbl (by omega)
        have hml := hi.1
        have hmk := hm k hlt
        go_wp2_with fail
        refine (sz_part A' m c' _ q _ (by omega) ⟨hq0, by omega⟩).mono ?_
        rintro e w' ⟨rfl, hb2⟩
        have HB := Lib.hid (hbl.trans (hb2.mono hbl.size))
        clear hb2
        by_cases hle : (m : Int) ≤ q
        · rw [if_pos hle]
          have HK : Hid (((prAt ps k).stage.length : Int) ≤ left) := Lib.hid (by omega)
          clear hi hml hmk
          go_wp2
          go_roundw
          case rel => exact ⟨k + 1, q - m, by omega, by go_num, rfl, by omega, by omega, (fun j hj => by
            by_cases e : j < k
            · exact HALL.out j e
            · obtain rfl : j = k := by omega
              exact HK.out), HB.out⟩
          case measure => simp [intOf]; omega
        · rw [if_neg hle]
          go_wp2
          go_ret
          exact ⟨⟨-1, rfl, .inl (by decide)⟩, HB.out⟩
      · obtain rfl : k = n := by omega
        go_wp2
        go_ret
        exact ⟨⟨q, rfl, .inr ⟨hq0, hq1, hlt0, HALL.out⟩⟩, hbl⟩
  · go_enter Tryd.func22, Tryd.ntmps22
    go_wp2
    go_ret
    exact ⟨⟨-1, rfl, .inl (by decide)⟩, Below.refl _ _⟩
/-- how many marks the first k parts take. -/
def totP (ps : List Prt) (k : Nat) : Nat := ((ps.take k).map fun p => p.stage.length + 1).sum
theorem totP_zero (ps : List Prt) : totP ps 0 = 0 := by simp [totP]
theorem totP_succ {ps : List Prt} {k : Nat} (h : k < ps.length) : totP ps (k + 1) = totP ps k + ((prAt ps k).stage.length + 1) := by
  unfold totP
  rw [List.take_add_one, prAt_get h, List.map_append, List.sum_append]
  simp
theorem totP_le {ps : List Prt} (h : SmallP ps) : ∀ k, k ≤ ps.length → totP ps k ≤ k * 1048577
  | 0, _ => by rw [totP_zero]; exact Nat.zero_le _
  | k + 1, hk => by
    have ih := totP_le h k (by omega)
    have := h.2 k (by omega)
    rw [totP_succ (by omega)]
    omega
theorem totP_top {ps : List Prt} (h : SmallP ps) {k : Nat} (hk : k ≤ ps.length) : totP ps k ≤ 1099512676352 := by
  have h1 := totP_le h k hk
  have h2 := h.1
  have : k * 1048577 ≤ 1048576 * 1048577 := Nat.mul_le_mul_right _ (by omega)
  omega
/-- the j-th part when it is marked. -/
def mkP (s : Nat) (ps : List Prt) (j : Nat) : Prt := ⟨marks .i64 ((s + totP ps j : Nat) : Int) (prAt ps j).stage.length, ((s + totP ps j + (prAt ps j).stage.length : Nat) : Int)⟩
/-- the first k parts marked. -/
def mixP (s : Nat) (ps : List Prt) (k : Nat) : List Prt := (List.range ps.length).map fun j => if j < k then mkP s ps j else prAt ps j
theorem mixP_len (s : Nat) (ps : List Prt) (k : Nat) : (mixP s ps k).length = ps.length := by simp [mixP]
theorem mixP_at (s : Nat) (ps : List Prt) (k : Nat) {j : Nat} (h : j < ps.length) : prAt (mixP s ps k) j = if j < k then mkP s ps j else prAt ps j := prAt_some (by simp [mixP, h])
theorem mixP_zero (s : Nat) (ps : List Prt) : mixP s ps 0 = ps := by
  apply List.ext_getElem?
  intro i
  by_cases h : i < ps.length
  · rw [prAt_get h]
    simp [mixP, h]
  · rw [List.getElem?_eq_none (by rw [mixP_len]; omega), List.getElem?_eq_none (by omega)]
theorem set_atP {α : Type} {pre rest : List α} {z a : α} {m : Nat} (h : pre.length = m) : (pre ++ z :: rest).set m a = pre ++ a :: rest := by
  subst h
  rw [List.set_append_right _ _ (Nat.le_refl _), Nat.sub_self, List.set_cons_zero]
theorem prow_green {xs : List (Value × Int)} {k : Nat} {u : Value} {g : Int} (h : xs[k]? = some (u, g)) (g' : Int) : (prow xs).set (k * 2 + 1) (.int .i64 g') = prow (xs.set k (u, g')) := by
  have hk := (List.getElem?_eq_some_iff.1 h).1
  have hx := (List.getElem?_eq_some_iff.1 h).2
  have e : xs = xs.take k ++ (u, g) :: xs.drop (k + 1) := by
    rw [← hx, ← List.drop_eq_getElem_cons hk, List.take_append_drop]
  have hl : (xs.take k).length = k := by rw [List.length_take]; omega
  have e2 : xs.set k (u, g') = xs.take k ++ (u, g') :: xs.drop (k + 1) := by
    conv => lhs; rw [e]
    exact set_atP hl
  have e3 : prow xs = (prow (xs.take k) ++ [u]) ++ .int .i64 g :: prow (xs.drop (k + 1)) := by
    conv => lhs; rw [e, prow_append]
    simp [prow]
  rw [e2, e3, set_at (by rw [List.length_append, prow_length, hl]; rfl), prow_append]
  simp [prow]
theorem fst_set {xs : List (Value × Int)} {k : Nat} {u : Value} {g : Int} (h : xs[k]? = some (u, g)) (g' : Int) : (xs.set k (u, g')).map (·.1) = xs.map (·.1) := by
  apply List.ext_getElem?
  intro i
  rw [List.getElem?_map, List.getElem?_map, List.getElem?_set]
  by_cases e : k = i
  · subst e
    rw [if_pos rfl, h, if_pos (List.getElem?_eq_some_iff.1 h).1]
    rfl
  · rw [if_neg e]
set_option maxHeartbeats 1000000 in
set_option maxRecDepth 100000 in
theorem marked_prt (A : Option Addr) (n c lo hi s : Nat) (xs : List (Value × Int)) (ps : List Prt) (w : World) (h : OwQ w lo hi (.slice A n c) xs ps) (hap : ApartL (xs.map (·.1))) (hz : SmallP ps) (hs : s ≤ 2199023255552) :
    Calls Tryd.prog 32 #[.slice A n c, .int .i64 s] w fun e w' => e = .returned (.int .i64 ((s + totP ps n : Nat) : Int)) ∧ (∃ xs', OwQ w' lo hi (.slice A n c) xs' (mixP s ps n)) ∧ Part lo hi w w' := by
  have hl : ps.length = n := (ownr_len h.own.row).symm
  have hz1 := hz.1
  go_enter Tryd.func32, Tryd.ntmps32
  go_wp2
  go_loopw [1, 5] (fun x i wr => ∃ (k q : Nat) (xs' : List (Value × Int)), k ≤ n ∧ i = .int .i64 k ∧ x = .int .i64 (q : Int) ∧ q = s + totP ps k ∧ xs'.map (·.1) = xs.map (·.1) ∧ OwQ wr lo hi (.slice A n c) xs' (mixP s ps k) ∧ Part lo hi w wr) (fun _ i _ => n - (intOf i).toNat)
  case atStart => exact ⟨0, s, xs, Nat.zero_le _, rfl, rfl, by rw [totP_zero]; rfl, rfl, by rw [mixP_zero]; exact h, ⟨rfl, rfl, rfl, Nat.le_refl _, fun _ _ _ => rfl⟩⟩
  case round =>
    clear h
    obtain ⟨k, q, xs', hk, rfl, rfl, hq, hxs, ho, hp⟩ := hrel
    have HQ := Lib.hid hq
    clear hq
    by_cases hlt : k < n
    · have hml := mixP_len s ps k
      obtain ⟨u, hu, hown⟩ := ho.own.each k (by omega)
      have hmk := mixP_at s ps k (j := k) (by omega)
      rw [if_neg (Nat.lt_irrefl k)] at hmk
      obtain ⟨zs, hzs⟩ : ∃ zs, (prAt ps k).stage = zs := ⟨_, rfl⟩
      obtain ⟨gr, hgr⟩ : ∃ gr, (prAt ps k).green = gr := ⟨_, rfl⟩
      rw [hmk, hzs] at hown
      rw [hmk, hgr] at hu
      have hlen := hz.2 k (by omega)
      rw [hzs] at hlen
      have htt := totP_top hz (k := k) (by omega)
      have hts := totP_succ (ps := ps) (k := k) (by omega)
      rw [hzs] at hts
      have HZS := Lib.hid hzs
      have hqb : q ≤ 4398046511104 := by have := HQ.out; omega
      have HQ2 : Hid (q + zs.length + 1 = s + totP ps (k + 1)) := Lib.hid (by have := HQ.out; omega)
      clear hts htt hzs
      obtain ⟨A', c', rfl⟩ := hown.sliced
      rcases ownr_shape ho.own.row with ⟨e, he⟩ | ⟨g, cap, e, hg, hgs, _⟩
      · exfalso; omega
      injection e with e1 e2 e3
      clear e2 e3
      obtain rfl := e1
      have hrow := ho.own.row
      rw [mixP_len, hl] at hrow
      have hca := World.ownsRow.cellAt hrow (k * 2)
      have q0 := (hca (by omega)).trans (prow_at0 hu)
      clear hca
      have HO := Lib.hid ho
      have HP := Lib.hid hp
      have HU := Lib.hid hu
      have HMK := Lib.hid hmk
      have HXS := Lib.hid hxs
      clear ho hp hu hmk hxs hrow
      go_wp2_with fail
      refine (mark_i64 A' _ c' lo q zs wr hown (by omega) (by omega)).mono ?_
      rintro e w3 ⟨rfl, ho3, hg3⟩
      have hrow3 := ownr_grown HO.out.own.row hg3 (fun g hg e => own_apartP hown HO.out.own.row g e hg)
      rw [mixP_len, hl] at hrow3
      have hf := World.ownsRow.frozenAt hrow3
      obtain ⟨x1, hx1⟩ := ownr_some hrow3 (j := k * 2 + 1) (by omega)
      have hca := World.ownsRow.cellAt hrow3 (k * 2)
      have q0' := (hca (by omega)).trans (prow_at0 HU.out)
      clear hca
      have hst := (World.ownsRow.stored hrow3 (k * 2 + 1) (.int .i64 ((q + zs.length : Nat) : Int))).1
      rw [prow_green HU.out] at hst
      have hgs3 : w3.grownBy (w3.setCell ⟨g, k * 2 + 1, none⟩ (.int .i64 ((q + zs.length : Nat) : Int))) (some g) := only_setCell (World.grownBy.refl _ _) _ _
      have hkept : ∀ {x : Value} {ys : List Int} {l : Nat}, Own .i64 3 w3 l x ys → Own .i64 3 (w3.setCell ⟨g, k * 2 + 1, none⟩ (.int .i64 ((q + zs.length : Nat) : Int))) l x ys := fun hx => hx.grown hgs3 (fun g' hg' e => own_apartP hx hrow3 g' hg' e)
      have HO3 : Hid (OwQ (w3.setCell ⟨g, k * 2 + 1, none⟩ (.int .i64 ((q + zs.length : Nat) : Int))) lo hi (.slice (some ⟨g, 0, none⟩) n c) (xs'.set k (.slice A' zs.length c', ((q + zs.length : Nat) : Int))) (mixP s ps (k + 1))) := Lib.hid ⟨⟨by
          rw [mixP_len, hl]
          exact hst, fun j hj => by
          rw [mixP_len] at hj
          rw [mixP_at s ps (k + 1) hj]
          by_cases hjk : j = k
          · subst hjk
            rw [if_pos (Nat.lt_succ_self _)]
            refine ⟨.slice A' zs.length c', ?_, ?_⟩
            · rw [List.getElem?_set_self (List.getElem?_eq_some_iff.1 HU.out).1]
              unfold mkP
              simp only [HZS.out, ← HQ.out]
            · unfold mkP
              simp only [HZS.out, ← HQ.out]
              exact hkept ho3
          · obtain ⟨x, h1, h2⟩ := HO.out.own.each j (by rw [mixP_len]; exact hj)
            rw [mixP_at s ps k hj] at h1 h2
            have hif : (if j < k + 1 then mkP s ps j else prAt ps j) = (if j < k then mkP s ps j else prAt ps j) := by
              by_cases hj2 : j < k
              · rw [if_pos hj2, if_pos (by omega)]
              · rw [if_neg hj2, if_neg (by omega)]
            rw [hif]
            refine ⟨x, ?_, hkept (h2.grown hg3 (fun g' hg' e => ?_))⟩
            · rw [List.getElem?_set_ne (fun e => hjk e.symm)]
              exact h1
            · have f1 : (xs'.map (·.1))[j]? = some x := by rw [List.getElem?_map, h1]; rfl
              have f2 : (xs'.map (·.1))[k]? = some (.slice A' zs.length c') := by rw [List.getElem?_map, HU.out]; rfl
              rw [HXS.out] at f1 f2
              exact hap j k _ _ hjk f1 f2 g' hg' e⟩, HO.out.lt, fun y hy g' hg' => by
          have hy1 : y.1 ∈ xs'.map (·.1) := by
            rw [← fst_set HU.out ((q + zs.length : Nat) : Int)]
            exact List.mem_map_of_mem hy
          obtain ⟨z, hz, e⟩ := List.mem_map.1 hy1
          exact HO.out.ltu z hz g' (by rw [e]; exact hg'), Nat.le_trans HO.out.top (Nat.le_trans hg3.size hgs3.size)⟩
      have hglt := HO.out.lt g rfl
      have HP3 : Hid (Part lo hi w (w3.setCell ⟨g, k * 2 + 1, none⟩ (.int .i64 ((q + zs.length : Nat) : Int)))) := Lib.hid ⟨hgs3.os.trans (hg3.os.trans HP.out.os), hgs3.tape.trans (hg3.tape.trans HP.out.tape), hgs3.output.trans (hg3.output.trans HP.out.output), Nat.le_trans HP.out.size (Nat.le_trans hg3.size hgs3.size), fun i hi' hd => ((hgs3.block i (Nat.lt_of_lt_of_le hi' (Nat.le_trans HP.out.size hg3.size)) (fun e => by
        have e' : i = g := Option.some.inj e
        omega)).trans (hg3.block i (Nat.lt_of_lt_of_le hi' HP.out.size) (fun e => by
        have := HO.out.ltu _ (List.mem_of_getElem? HU.out) i e.symm
        omega))).trans (HP.out.block i hi' hd)⟩
      have HX3 : Hid ((xs'.set k (.slice A' zs.length c', ((q + zs.length : Nat) : Int))).map (·.1) = xs.map (·.1)) := Lib.hid ((fst_set HU.out _).trans HXS.out)
      have HQ3 := Lib.hid HQ2.out
      have hq2b : q + zs.length ≤ 8796093022208 := by omega
      generalize q + zs.length = q2 at *
      clear ho3 hg3 hown HO HP HU hgs3 hkept hst hrow3
      go_wp2
      go_roundw
      case rel => exact ⟨k + 1, q2 + 1, _, by omega, by go_num, by go_num, HQ3.out, HX3.out, HO3.out, HP3.out⟩
      case measure => simp [intOf]; omega
    · obtain rfl : k = n := by omega
      have HO := Lib.hid ho
      have HP := Lib.hid hp
      clear ho hp
      go_wp2
      go_ret
      exact ⟨by first | (rw [← HQ.out]; rfl) | (rw [show ((s : Int) + (totP ps k : Int)) = ((q : Nat) : Int) by rw [HQ.out]; simp]; rfl), ⟨_, HO.out⟩, HP.out⟩
end Go.Proofs.YtcbccbefkpklkaaDoor

/- WorstWait as its exact law meets it. -/
namespace Go.Proofs.YtcbccbefkpklkaaDoor
open Go.RowKit
set_option linter.unusedVariables false

theorem sp_WorstWait (A0 : Option Addr) (n0 c0 : Nat) (zs0 : List Pth) (A1 : Option Addr) (n1 c1 : Nat) (zs1 : List Prt) (w : World) (h0 : SlP w A0 n0 c0 zs0) (hs0 : n0 ≤ 1048576) (h1 : SlQ w A1 n1 c1 zs1) (hs1 : SmallP zs1) (r : Int) (hr : worstP zs0 zs1 = r) :
    Calls Tryd.prog 23 #[.slice A0 n0 c0, .slice A1 n1 c1] w fun e w' => e = .returned (.int .i64 r) ∧ Below w.heap.size w w' := by
  subst hr
  have hq1 := h1.prts.1
  have hz1 := hs1.1
  exact spec_WorstWait A0 n0 c0 _ zs0 A1 n1 c1 _ zs1 w h0.pths (Nat.le_refl _) (by omega) h1.prts (Nat.le_refl _) (by omega) (hs1.at _ _ hq1.symm (Nat.le_refl _))
theorem im_WorstWait (A0 : Option Addr) (n0 c0 : Nat) (zs0 : List Pth) (A1 : Option Addr) (n1 c1 : Nat) (zs1 : List Prt) (w : World) (h0 : SlP w A0 n0 c0 zs0) (hs0 : n0 ≤ 1048576) (h1 : SlQ w A1 n1 c1 zs1) (hs1 : SmallP zs1) (hv0 : Brus w) (hv1 : Clrs w) (r : Int) (hr : worstP zs0 zs1 = r) :
    Calls Tryd.prog 25 #[.slice A0 n0 c0, .slice A1 n1 c1] w fun e w' => e = .returned (.int .i64 r) ∧ Below w.heap.size w w' := by
  subst hr
  have hq1 := h1.prts.1
  have hz1 := hs1.1
  exact impl_WorstWait ⟨h0.pths, Nat.le_refl _, h0.cap, by omega, h1.prts, Nat.le_refl _, by omega, hs1.at _ _ hq1.symm (Nat.le_refl _), hv0, hv1⟩
end Go.Proofs.YtcbccbefkpklkaaDoor

/- IsSafeLights: the model and the program. -/
namespace Go.Proofs.YtcbccbefkpklkaaDoor
open Go.RowKit
set_option linter.unusedVariables false

theorem safe_off {ps : List Pth} {ls : List Int} (h : (arePs ps && decide (ls.length = ps.length)) = false) : safeP ps ls = false := by unfold safeP; rw [h]; rfl
theorem safe_pair {ps : List Pth} {ls : List Int} {i k : Nat} (hk : k < i) (h1 : ls.getD i 0 ≠ 0) (h2 : ls.getD k 0 ≠ 0) (h3 : conf (pAt ps i) (pAt ps k) = true) : safeAt ps ls i = false := by
  unfold safeAt
  have : (List.range i).all (fun k => !(decide (ls.getD i 0 ≠ 0) && decide (ls.getD k 0 ≠ 0) && conf (pAt ps i) (pAt ps k))) = false := by
    rw [Bool.eq_false_iff]
    intro ha
    have := List.all_eq_true.1 ha k (List.mem_range.2 hk)
    rw [decide_eq_true h1, decide_eq_true h2, h3] at this
    cases this
  rw [this, Bool.and_false]
def pairOk (ps : List Pth) (ls : List Int) (i k : Nat) : Bool := !(decide (ls.getD i 0 ≠ 0) && decide (ls.getD k 0 ≠ 0) && conf (pAt ps i) (pAt ps k))
theorem safe_at {ps : List Pth} {ls : List Int} {i : Nat} (h0 : inB (ls.getD i 0) 0 2 = true) (h : ∀ k, k < i → pairOk ps ls i k = true) : safeAt ps ls i = true := by
  unfold safeAt
  rw [h0, Bool.true_and]
  exact List.all_eq_true.2 fun k hk => h k (List.mem_range.1 hk)
set_option maxHeartbeats 4000000 in
theorem spec_IsSafeLights (A : Option Addr) (n c B : Nat) (ps : List Pth) (A2 : Option Addr) (n2 c2 B2 : Nat) (ls : List Int) (w : World) (h : PthsAt w B A n ps) (hB : B ≤ w.heap.size) (hn : n ≤ 4294967296) (h2 : IntsAt .i64 w B2 A2 n2 ls) (hB2 : B2 ≤ w.heap.size) (hn2 : n2 ≤ 4294967296) :
    Calls Tryd.prog 16 #[.slice A n c, .slice A2 n2 c2] w fun e w' => e = .returned (.bool (safeP ps ls)) ∧ Below w.heap.size w w' := by
  have hl := h.1
  have hl2 := h2.1
  have HAP := Lib.hid (spec_ArePaths A n c B ps w h hB hn)
  have HOF := Lib.hid (fun hh => safe_off (ps := ps) (ls := ls) hh)
  have H := Lib.hid h
  have H2 := Lib.hid h2
  clear h h2
  cases ha : arePs ps
  · have HR := Lib.hid (HOF.out (by rw [ha]; rfl))
    rw [ha] at HAP
    clear ha
    go_enter Tryd.func16, Tryd.ntmps16
    go_wp2_with fail
    refine HAP.out.mono ?_
    rintro e w1 ⟨rfl, hb⟩
    go_wp2
    go_ret
    exact ⟨by rw [HR.out]; try rfl, hb⟩
  · rw [ha] at HAP
    by_cases hne : n2 = n
    rotate_left
    · have HR := Lib.hid (HOF.out (by rw [ha, decide_eq_false (by omega)]; rfl))
      have HH := Lib.hid hne
      clear ha
      have e1 : ((n2 : Int) == (n : Int)) = false := beq_eq_false_iff_ne.2 (by omega)
      go_enter Tryd.func16, Tryd.ntmps16
      go_wp2_with fail
      refine HAP.out.mono ?_
      rintro e w1 ⟨rfl, hb⟩
      go_wp2
      go_ret
      exact ⟨by rw [HR.out]; try rfl, hb⟩
    · subst hne
      have HNO := Lib.hid (fun i (hi : i < n2) hh => safe_no (ps := ps) (ls := ls) (i := i) (by omega) hh)
      have HEND := Lib.hid (fun (hh : ∀ i, i < n2 → safeAt ps ls i = true) => safe_end (ps := ps) (ls := ls) ha (by omega) (fun i hi => hh i (by omega)))
      clear ha hl hl2
      go_enter Tryd.func16, Tryd.ntmps16
      go_wp2_with fail
      refine HAP.out.mono ?_
      rintro e w1 ⟨rfl, hb1⟩
      have HB1 := Lib.hid hb1
      clear hb1
      go_wp2
      go_loopw [5] (fun i wr => ∃ k : Nat, k ≤ n2 ∧ i = .int .i64 k ∧ (∀ j, j < k → safeAt ps ls j = true) ∧ Below w.heap.size w wr) (fun i _ => n2 - (intOf i).toNat)
      case atStart => exact ⟨0, Nat.zero_le _, rfl, fun j hj => absurd hj (by omega), HB1.out⟩
      case round =>
        clear HB1
        obtain ⟨k, hk, rfl, hgo, hbl⟩ := hrel
        have HG := Lib.hid hgo
        have HBL := Lib.hid hbl
        clear hgo hbl
        by_cases hlt : k < n2
        · obtain ⟨ad2, rfl, hab2, hcell⟩ := H2.out.2 (by omega)
          have HC := Lib.hid (fun x (hx : Below w.heap.size w x) j (hj : j < n2) => (hx.cell (p := ad2.add j) (by rw [add_block]; omega)).trans (hcell j hj))
          have hc := HC.out wr HBL.out k hlt
          have HNK := Lib.hid (HNO.out k hlt)
          have i1 : (0 : Int) ≤ (k : Int) := by omega
          have i2 : (k : Int) < (n2 : Int) := by omega
          obtain ⟨z, hz⟩ : ∃ z, ls.getD k 0 = z := ⟨_, rfl⟩
          have HZ := Lib.hid hz
          rw [hz] at hc
          clear hcell hz
          cases hin : inB z 0 2
          · have HR := Lib.hid (HNK.out (by unfold safeAt; rw [HZ.out, hin]; rfl))
            have HIN := Lib.hid hin
            clear hin
            go_wp2_with fail
            refine (spec_l1In _ _ _ _).mono ?_
            rw [HIN.out]
            rintro e w2 ⟨rfl, rfl⟩
            go_wp2
            go_ret
            exact ⟨by rw [HR.out]; try rfl, HBL.out⟩
          · have HIN := Lib.hid hin
            clear hin
            obtain ⟨ad, p, rfl, hab, hp, hq⟩ := H.out.at hlt
            have HQ := Lib.hid hq
            have HPK : Hid (pAt ps k = p) := Lib.hid (pAt_some hp)
            have HG1 : Hid ((∀ m, m < k → pairOk ps ls k m = true) → ∀ j, j < k + 1 → safeAt ps ls j = true) := Lib.hid (fun hh j hj => by
              by_cases e : j = k
              · subst e; exact safe_at (by rw [HZ.out]; exact HIN.out) hh
              · exact HG.out j (by omega))
            clear hp hq
            go_wp2_with fail
            refine (spec_l1In _ _ _ _).mono ?_
            rw [HIN.out]
            rintro e w2 ⟨rfl, rfl⟩
            obtain ⟨wo, rfl⟩ : ∃ wo : World, wo = wr := ⟨_, rfl⟩
            clear hc
            go_wp2
            go_loopw [6] (fun i wr => ∃ m : Nat, m ≤ k ∧ i = .int .i64 m ∧ (∀ j, j < m → pairOk ps ls k j = true) ∧ Below w.heap.size w wr) (fun i _ => k - (intOf i).toNat)
            case atStart => exact ⟨0, Nat.zero_le _, rfl, fun j hj => absurd hj (by omega), HBL.out⟩
            case round =>
              clear HBL
              obtain ⟨m, hm, rfl, hgo, hbl⟩ := hrel
              have HGM := Lib.hid hgo
              have HBM := Lib.hid hbl
              have hszm := hbl.size
              clear hgo hbl
              by_cases hlm : m < k
              · obtain ⟨ad', p2, e0, hab', hp2, hq2⟩ := H.out.at (show m < n2 by omega)
                injection e0 with e0
                subst e0
                have HPM : Hid (pAt ps m = p2) := Lib.hid (pAt_some hp2)
                have HQ2 := Lib.hid hq2
                obtain ⟨z2, hz2⟩ : ∃ z, ls.getD m 0 = z := ⟨_, rfl⟩
                have HZ2 := Lib.hid hz2
                have hw := HBM.out
                have c1 := fun x : GW wr => (HC.out x.val (hw.trans (x.ok.mono hw.size)) k hlt).trans (by rw [HZ.out])
                have c2 := fun x : GW wr => (HC.out x.val (hw.trans (x.ok.mono hw.size)) m (by omega)).trans (by rw [hz2])
                have HWX := Lib.hid (fun x : GW wr => hw.trans (x.ok.mono hw.size))
                have b0 := fun x : GW wr => (HQ.out.below (HWX.out x) (by omega)).c0
                have b1 := fun x : GW wr => (HQ.out.below (HWX.out x) (by omega)).c1
                have b2 := fun x : GW wr => (HQ.out.below (HWX.out x) (by omega)).c2
                have b3 := fun x : GW wr => (HQ.out.below (HWX.out x) (by omega)).c3
                have q0 := fun x : GW wr => (HQ2.out.below (HWX.out x) (by omega)).c0
                have q1 := fun x : GW wr => (HQ2.out.below (HWX.out x) (by omega)).c1
                have q2 := fun x : GW wr => (HQ2.out.below (HWX.out x) (by omega)).c2
                have q3 := fun x : GW wr => (HQ2.out.below (HWX.out x) (by omega)).c3
                have hcf := fun x : GW wr => spec_Conflict p p2 x.val
                simp only [Pth.val] at hcf
                have HPO : Hid (pairOk ps ls k m = !(decide (z ≠ 0) && decide (z2 ≠ 0) && conf p p2)) := Lib.hid (by unfold pairOk; rw [HZ.out, hz2, HPK.out, HPM.out])
                have HGS : Hid (pairOk ps ls k m = true → ∀ j, j < m + 1 → pairOk ps ls k j = true) := Lib.hid (fun hh j hj => by
                  by_cases e : j = m
                  · subst e; exact hh
                  · exact HGM.out j (by omega))
                have k1 : (0 : Int) ≤ (m : Int) := by omega
                have k2 : (m : Int) < (n2 : Int) := by omega
                have k3 : (m : Int) < (k : Int) := by omega
                clear hw hp2 hq2 hz2
                by_cases hz0 : z = 0
                · have HGN := Lib.hid (HGS.out (by rw [HPO.out, hz0]; rfl))
                  subst hz0
                  go_wp2
                  refine wp_region_grow (by kernel_rfl) (by kernel_rfl) ?_
                  repeat (go_big_quiet_step (first | (go_at_call 59; exact calls_gw _ (hcf _))))
                  refine wpQuiet_nil ?_
                  intro x5
                  have hb5 := HBM.out.trans (x5.ok.mono hszm)
                  clear c1 c2 b0 b1 b2 b3 q0 q1 q2 q3 hcf
                  generalize x5.val = w5 at *
                  go_wp2
                  go_roundw
                  case rel => exact ⟨m + 1, by omega, by go_num, HGN.out, hb5⟩
                  case measure => simp [intOf]; omega
                have e0 : (z != 0) = true := bne_iff_ne.2 hz0
                by_cases hz1 : z2 = 0
                · have HGN := Lib.hid (HGS.out (by rw [HPO.out, hz1, decide_eq_true hz0]; rfl))
                  subst hz1
                  go_wp2
                  refine wp_region_grow (by kernel_rfl) (by kernel_rfl) ?_
                  repeat (go_big_quiet_step (first | (go_at_call 59; exact calls_gw _ (hcf _))))
                  refine wpQuiet_nil ?_
                  intro x5
                  have hb5 := HBM.out.trans (x5.ok.mono hszm)
                  clear c1 c2 b0 b1 b2 b3 q0 q1 q2 q3 hcf
                  generalize x5.val = w5 at *
                  go_wp2
                  go_roundw
                  case rel => exact ⟨m + 1, by omega, by go_num, HGN.out, hb5⟩
                  case measure => simp [intOf]; omega
                have e2 : (z2 != 0) = true := bne_iff_ne.2 hz1
                cases hcv : conf p p2
                · have HGN := Lib.hid (HGS.out (by rw [HPO.out, hcv, Bool.and_false]; rfl))
                  rw [hcv] at hcf
                  clear hcv
                  go_wp2
                  refine wp_region_grow (by kernel_rfl) (by kernel_rfl) ?_
                  repeat (go_big_quiet_step (first | (go_at_call 59; exact calls_gw _ (hcf _))))
                  refine wpQuiet_nil ?_
                  intro x5
                  have hb5 := HBM.out.trans (x5.ok.mono hszm)
                  clear c1 c2 b0 b1 b2 b3 q0 q1 q2 q3 hcf
                  generalize x5.val = w5 at *
                  go_wp2
                  go_roundw
                  case rel => exact ⟨m + 1, by omega, by go_num, HGN.out, hb5⟩
                  case measure => simp [intOf]; omega
                · have HR := Lib.hid (HNK.out (safe_pair hlm (by rw [HZ.out]; exact hz0) (by rw [HZ2.out]; exact hz1) (by rw [HPK.out, HPM.out]; exact hcv)))
                  rw [hcv] at hcf
                  clear hcv
                  go_wp2
                  refine wp_region_grow (by kernel_rfl) (by kernel_rfl) ?_
                  repeat (go_big_quiet_step (first | (go_at_call 59; exact calls_gw _ (hcf _))))
                  refine wpQuiet_nil ?_
                  intro x5
                  have hb5 := HBM.out.trans (x5.ok.mono hszm)
                  clear c1 c2 b0 b1 b2 b3 q0 q1 q2 q3 hcf
                  generalize x5.val = w5 at *
                  go_wp2
                  go_ret
                  exact ⟨by rw [HR.out]; try rfl, hb5⟩
              · obtain rfl : m = k := by omega
                have HGN := Lib.hid (HG1.out HGM.out)
                go_wp2
                go_roundw
                case rel => exact ⟨m + 1, by omega, by go_num, HGN.out, HBM.out⟩
                case measure => simp [intOf]; omega
        · obtain rfl : k = n2 := by omega
          have HR := Lib.hid (HEND.out HG.out)
          go_wp2
          go_ret
          exact ⟨by rw [HR.out]; try rfl, HBL.out⟩
set_option maxHeartbeats 4000000 in
set_option maxRecDepth 100000 in
theorem impl_IsSafeLights (A : Option Addr) (n c B : Nat) (ps : List Pth) (A2 : Option Addr) (n2 c2 B2 : Nat) (ls : List Int) (w : World) (h : PthsAt w B A n ps) (hB : B ≤ w.heap.size) (hn : n ≤ c ∧ c ≤ maxLen) (hn1 : n ≤ 4294967296) (h2 : IntsAt .i64 w B2 A2 n2 ls) (hB2 : B2 ≤ w.heap.size) (hn2 : n2 ≤ 4294967296) (hw : Brus w) :
    Calls Tryd.prog 19 #[.slice A n c, .slice A2 n2 c2] w fun e w' => e = .returned (.bool (safeP ps ls)) ∧ Below w.heap.size w w' := by
  have hl := h.1
  have hl2 := h2.1
  have HOF := Lib.hid (fun hh => safe_off (ps := ps) (ls := ls) hh)
  have H2 := Lib.hid h2
  have HW := Lib.hid hw
  cases ha : arePs ps
  · have HR := Lib.hid (HOF.out (by rw [ha]; rfl))
    have HC := Lib.hid (impl_crossingOf_no A n c B ps _ h hB hn1 ha)
    clear h hw ha h2
    go_enter Tryd.func19, Tryd.ntmps19
    go_wp2_with fail
    refine HC.out.mono ?_
    rw [cross_lit]
    rintro e w1 ⟨rfl, hb⟩
    have HB1 := Lib.hid hb
    clear hb
    go_wp2
    go_ret
    exact ⟨by rw [HR.out]; try rfl, HB1.out.alloc HB1.out.size _⟩
  · subst hl
    have h12 := arePs_len12 ha
    have hp12 := pow_le12 h12
    have HC := Lib.hid (impl_crossingOf A ps.length c B ps _ h hB hn ha)
    have hln : (xcells A ps.length c (rowSt ps ps.length 0)).length = 13 := xcells_length _ _ _ _
    have hinf : (Tryd.prog.info? 79).map (·.size) = some (xcells A ps.length c (rowSt ps ps.length 0)).length := by rw [hln]; exact info_cross
    have HCL := Lib.hid (cross_lit A ps.length c (rowSt ps ps.length 0))
    have HPE := Lib.hid (fun m hm x hx => impl_isPeaceful A ps.length c (rowSt ps ps.length 0) (rowSt_lt ps ps.length 0) m hm x hx)
    have HNO := Lib.hid (fun i (hi : i < ps.length) hh => safe_no (ps := ps) (ls := ls) (i := i) hi hh)
    have HMK : Hid (n2 = ps.length → (∀ i, i < ps.length → inB (ls.getD i 0) 0 2 = true) → decide (agL (rowSt ps ps.length 0) (idxs (shownM ls ps.length)) &&& shownM ls ps.length = 0) = safeP ps ls) := Lib.hid (fun hh hin => by
      have := safe_mask (ps := ps) (ls := ls) ha (by omega) hin
      cases hs : safeP ps ls
      · exact decide_eq_false (fun q => by rw [this.2 q] at hs; cases hs)
      · exact decide_eq_true (this.1 hs))
    have HOA := Lib.hid (fun (hh : ¬ n2 = ps.length) => HOF.out (by rw [ha, decide_eq_false (by omega)]; rfl))
    have HSL := Lib.hid (shownM_lt ls)
    have HSS := Lib.hid (shownM_succ ls)
    have HS0 : Hid (shownM ls 0 = 0) := Lib.hid rfl
    generalize hxs : xcells A ps.length c (rowSt ps ps.length 0) = xs at *
    generalize hN : ps.length = N at *
    clear h hw ha h2 hxs
    go_enter Tryd.func19, Tryd.ntmps19
    go_wp2_with fail
    refine HC.out.mono ?_
    rw [HCL.out]
    rintro e w1 ⟨rfl, hb⟩
    have hX := heap_alloc_new w1 (.cells xs.toArray 79)
    have hB1 := hb.alloc hb.size (.cells xs.toArray 79)
    have hs2 : w1.heap.size < (w1.alloc (.cells xs.toArray 79)).heap.size := by simp
    obtain ⟨w2, hw2⟩ : ∃ w2, w2 = w1.alloc (.cells xs.toArray 79) := ⟨_, rfl⟩
    rw [← hw2] at hX hB1 hs2
    rw [HCL.out] at hw2
    have HX2 := Lib.hid hX
    have HB2 := Lib.hid hB1
    clear hb HC hX hB1
    by_cases hne : n2 = N
    rotate_left
    · have HR := Lib.hid (HOA.out hne)
      have e1 : ((n2 : Int) == (N : Int)) = false := beq_eq_false_iff_ne.2 (by omega)
      go_wp2
      rw [← hw2]
      go_ret
      exact ⟨by rw [HR.out]; try rfl, HB2.out⟩
    · have HMM := Lib.hid (HMK.out hne)
      have HNE := Lib.hid hne
      subst hne
      go_wp2
      rw [← hw2]
      clear hw2
      go_loopw [7, 26] (fun s i wr => ∃ k : Nat, k ≤ n2 ∧ i = .int .i64 k ∧ s = .int .u16 (shownM ls k : Nat) ∧ (∀ j, j < k → inB (ls.getD j 0) 0 2 = true) ∧ w2 = wr) (fun _ i _ => n2 - (intOf i).toNat)
      case atStart => exact ⟨0, Nat.zero_le _, rfl, by rw [HS0.out]; rfl, fun j hj => absurd hj (by omega), rfl⟩
      case round =>
        obtain ⟨k, hk, rfl, rfl, hgo, rfl⟩ := hrel
        have HG := Lib.hid hgo
        clear hgo
        have hsl := HSL.out k
        have hpk : 2 ^ k ≤ 4096 := Nat.le_trans (Nat.pow_le_pow_right (by decide) hk) hp12
        by_cases hlt : k < n2
        · obtain ⟨ad2, rfl, hab2, hcell⟩ := H2.out.2 (by omega)
          have hc := (HB2.out.cell (p := ad2.add k) (by rw [add_block]; omega)).trans (hcell k hlt)
          have HSK := Lib.hid (HSS.out k)
          have hmb := Lib.hid (fun x => impl_maskBit k x (by omega))
          have hpk1 : 2 ^ k < 4096 := Nat.lt_of_lt_of_le (Nat.pow_lt_pow_right (by decide) hlt) hp12
          have i1 : (0 : Int) ≤ (k : Int) := by omega
          have i2 : (k : Int) < (n2 : Int) := by omega
          have HNK := Lib.hid (HNO.out k hlt)
          have HGK : Hid (inB (ls.getD k 0) 0 2 = true → ∀ j, j < k + 1 → inB (ls.getD j 0) 0 2 = true) := Lib.hid (fun hh j hj => by
            by_cases e : j = k
            · subst e; exact hh
            · exact HG.out j (by omega))
          have HNN : Hid (inB (ls.getD k 0) 0 2 = false → safeP ps ls = false) := Lib.hid (fun hh => HNK.out (by unfold safeAt; rw [hh]; rfl))
          have hob : bits .or .u16 ((shownM ls k : Nat) : Int) ((2 ^ k : Nat) : Int) = ((shownM ls k ||| 2 ^ k : Nat) : Int) := u16_or_nat _ _ (by omega) (by omega)
          clear hcell
          generalize ls.getD k 0 = z at *
          generalize shownM ls k = sk at *
          generalize sk ||| 2 ^ k = y at *
          generalize 2 ^ k = pw at *
          cases hin : inB z 0 2
          · have HR := Lib.hid (HNN.out hin)
            have HIN := Lib.hid hin
            clear hin
            go_wp2_with fail
            refine (impl_InRange _ _ _ _).mono ?_
            rw [HIN.out]
            rintro e w3 ⟨rfl, rfl⟩
            go_wp2
            go_ret
            exact ⟨by rw [HR.out]; try rfl, HB2.out⟩
          · have HG2 := Lib.hid (HGK.out hin)
            have HIN := Lib.hid hin
            clear hin
            by_cases hz : z = 0
            · have HE := Lib.hid (HSK.out.trans (if_pos hz))
              subst hz
              go_wp2_with fail
              refine (impl_InRange _ _ _ _).mono ?_
              rw [HIN.out]
              rintro e w3 ⟨rfl, rfl⟩
              go_wp2
              go_roundw
              case rel => exact ⟨k + 1, by omega, by go_num, by rw [HE.out], HG2.out, trivial⟩
              case measure => simp [intOf]; omega
            · have HE := Lib.hid (HSK.out.trans (if_neg hz))
              have e0 : (z == 0) = false := by simpa using hz
              go_wp2_with fail
              refine (impl_InRange _ _ _ _).mono ?_
              rw [HIN.out]
              rintro e w3 ⟨rfl, rfl⟩
              go_wp2_with fail
              refine (hmb.out _).mono ?_
              rintro e w' ⟨rfl, rfl⟩
              go_wp2
              go_roundw
              case rel => exact ⟨k + 1, by omega, by go_num, by rw [HE.out], HG2.out, trivial⟩
              case measure => simp [intOf]; omega
        · obtain rfl : k = n2 := by omega
          have hrng := range_block HX2.out
          have HP := Lib.hid (HPE.out (shownM ls k) (by omega) w2 (HW.out.below HB2.out (Nat.le_refl _)))
          have HMK2 := Lib.hid (HMM.out (fun i hi => HG.out i (by omega)))
          generalize shownM ls k = sk at *
          go_wp2_with ((with_reducible show wpList _ _ _ _ _ _); refine wpList_load_mid rfl 79 _ rfl w1.heap.size 0 rfl xs _ hrng Tryd.underlying79 rfl hinf ?_)
          refine HP.out.mono ?_
          rintro e w3 ⟨rfl, hb3⟩
          go_wp2
          go_ret
          exact ⟨by rw [← HMK2.out]; try rfl, HB2.out.trans (hb3.mono HB2.out.size)⟩
end Go.Proofs.YtcbccbefkpklkaaDoor

/- IsSafeLights as its exact law meets it. -/
namespace Go.Proofs.YtcbccbefkpklkaaDoor
open Go.RowKit
set_option linter.unusedVariables false

theorem sp_IsSafeLights (A0 : Option Addr) (n0 c0 : Nat) (zs0 : List Pth) (A1 : Option Addr) (n1 c1 : Nat) (zs1 : List Int) (w : World) (h0 : SlP w A0 n0 c0 zs0) (hs0 : n0 ≤ 1048576) (h1 : Sl .i64 w A1 n1 c1 zs1) (hs1 : n1 ≤ 1048576) (r : Bool) (hr : safeP zs0 zs1 = r) :
    Calls Tryd.prog 16 #[.slice A0 n0 c0, .slice A1 n1 c1] w fun e w' => e = .returned (.bool r) ∧ Below w.heap.size w w' := by
  subst hr
  exact spec_IsSafeLights A0 n0 c0 _ zs0 A1 n1 c1 _ zs1 w h0.pths (Nat.le_refl _) (by omega) h1.ints (Nat.le_refl _) (by omega)
theorem im_IsSafeLights (A0 : Option Addr) (n0 c0 : Nat) (zs0 : List Pth) (A1 : Option Addr) (n1 c1 : Nat) (zs1 : List Int) (w : World) (h0 : SlP w A0 n0 c0 zs0) (hs0 : n0 ≤ 1048576) (h1 : Sl .i64 w A1 n1 c1 zs1) (hs1 : n1 ≤ 1048576) (hv0 : Brus w) (r : Bool) (hr : safeP zs0 zs1 = r) :
    Calls Tryd.prog 19 #[.slice A0 n0 c0, .slice A1 n1 c1] w fun e w' => e = .returned (.bool r) ∧ Below w.heap.size w w' := by
  subst hr
  exact impl_IsSafeLights A0 n0 c0 _ zs0 A1 n1 c1 _ zs1 w h0.pths (Nat.le_refl _) h0.cap (by omega) h1.ints (Nat.le_refl _) (by omega) hv0
end Go.Proofs.YtcbccbefkpklkaaDoor

/- The same step for a law whose row names package-level variables of the program's own: they read behind the call as before. -/
namespace Go.Proofs.YtcbccbefkpklkaaDoor
open Go.ChangeShapes Go.WideShapes Go.ChangeAt Go.RowKit Go.WideElems

/-- A variable that can be read, or is of an interface type. -/
def varTold (P : Program) (n : String) : Bool :=
  match (P.globalNamed n).bind (P.globals[·]?) with
  | some gl => (P.readableRec gl.type && decide (gl.type < P.types.size)) || (match P.underlying gl.type with | some (.interface _) => true | _ => false)
  | none => false

theorem trod_iface {H : Type} {enc : TypeId × Value → H} {P : Program} {W W' : World} {t : TypeId} {ms : Array (String × TypeId)} (ht : P.underlying t = some (.interface ms)) {fuel : Nat} {cs : List Value} {y : DataW H × List MemPlace}
    (sp sp' : Nat → Bool) (h : DataW.trod enc P W 0 sp true fuel t cs = some y) : DataW.trod enc P W' 0 sp' true fuel t cs = some y := by
  cases fuel with
  | zero => simp [DataW.trod] at h
  | succ m =>
    simp only [DataW.trod, ht] at h ⊢
    split at h <;> simp_all

theorem trodVars_stays {H : Type} {enc : TypeId × Value → H} {P : Program} (hl : laidOutB P = true) {W W' : World} (hb : Below W.heap.size W W') :
    ∀ {ns : List String} {gs : List (DataW H)} {ps : List MemPlace}, ns.all (varTold P) = true → DataW.TrodVars enc P W (fun _ => true) ns gs ps → DataW.TrodVars enc P W' (fun b => decide (b < W.heap.size)) ns gs ps
  | [], [], _, _, h => h
  | [], _ :: _, _, _, h => h.elim
  | _ :: _, [], _, _, h => h.elim
  | n :: ns, d :: ds, ps, hv, h => by
    have hlt := h.lt
    obtain ⟨g, t, cs, fuel, p, q, h1, h2, h3, h4, hs, e⟩ := h
    simp only [List.all_cons, Bool.and_eq_true] at hv
    have h3' : W'.var? P n = some cs := by
      unfold World.var? at h3 ⊢
      rw [h1] at h3 ⊢
      simp only [Option.bind_some] at h3 ⊢
      have hg : g < W.heap.size := by
        cases hh : W.heap[g]? with
        | none => rw [hh] at h3; cases h3
        | some o => exact (Array.getElem?_eq_some_iff.1 hh).1
      rw [hb.block g hg]; exact h3
    have hp : ∀ x ∈ p, x.block < W.heap.size := fun x hx => hlt x (by rw [e]; simp [hx])
    refine ⟨g, t, cs, fuel, p, q, h1, h2, h3', ?_, trodVars_stays hl hb hv.2 hs, e⟩
    have ht := hv.1
    unfold varTold at ht
    rw [h1, Option.bind_some] at ht
    cases hg : P.globals[g]? with
    | none => rw [hg] at ht; cases ht
    | some gl =>
      rw [hg] at h2 ht
      obtain rfl : gl.type = t := Option.some.inj h2
      simp only [Bool.or_eq_true, Bool.and_eq_true, decide_eq_true_eq] at ht
      rcases ht with ht | ht
      · exact DataW.trod_stays (kids_book hl ht.1) (book_sized ht.1) (fun h => by cases h) ⟨ht.2, book_self gl.type⟩ h4 (fun x hx => hb.same (hp x hx)) (fun x hx => by simpa using hp x hx)
      · split at ht
        · rename_i ms hu
          exact trod_iface hu _ _ h4
        · cases ht

theorem trodVars_length {H : Type} {enc : TypeId × Value → H} {P : Program} {W : World} {sp : Nat → Bool} : ∀ {ns : List String} {gs : List (DataW H)} {ps : List MemPlace}, DataW.TrodVars enc P W sp ns gs ps → gs.length = ns.length
  | [], [], _, _ => rfl
  | [], _ :: _, _, h => h.elim
  | _ :: _, [], _, h => h.elim
  | _ :: _, _ :: _, _, h => by
    obtain ⟨_, _, _, _, _, _, _, _, _, _, hs, _⟩ := h
    simp [trodVars_length hs]

/-- What the row asks of a law: its answer is true, its arguments and the named variables read as they did. -/
theorem post_law_vars {H : Type} {enc : TypeId × Value → H} {P : Program} {f : Func} {s : ChangeSpec} {tb : TypeId} {W W' : World} {args : Array Value} {ds gs : List (DataW H)} {before : List MemPlace}
    (hv : s.vars.all (varTold P) = true) (hf : f.resultTypes = #[tb]) (ub : P.underlying tb = some .bool) (hl : laidOutB P = true)
    (hr : (f.params.toList.all fun t => P.readableRec t && decide (t < P.types.size)) = true)
    (hW : DataW.Whole enc P f.params.toList s.vars false W args.toList ds gs before)
    (hs : s.fn H (ds ++ gs) = { results := [.lit (.bool true)], args := ds, vars := gs }) (hb : Below W.heap.size W W') :
    s.post enc P f false true false false W args (.bool true) W' := by
  have hW0 := hW
  obtain ⟨p, q, hA, hV, rfl, hz, hn⟩ := hW
  have hlt : ∀ x ∈ p ++ q, x.block < W.heap.size := fun x hx => hW0.lt x hx
  refine ⟨ds, gs, _, [], p, q, hW0, ?_, ?_, ?_, hb.frame _, fun h => by cases h⟩
  · rw [hs, hf]
    exact trodAll_mk1 (shut_bool ub true)
  · rw [hs]
    exact trodAll_stays hl hb _ _ _ _ hr hA (fun x hx => hlt x (List.mem_append_left _ hx))
  · rw [hs]
    exact trodVars_stays hl hb hv hV

/-- The law's row, lifted, out of its walk; 'laid' is what the row's variables read as. -/
theorem law_lifted_vars {H : Type} {enc : TypeId × Value → H} {C : Checked} {os : Os} {k : FuncId} {fn : Func} {s : ChangeSpec} {tb : TypeId} {laid : List (String × DataW Unit)}
    (own : ownKnob C.prog.godebug = none) (started : os.Started) (noInit : C.prog.inits.idxOf? k = none) (hfn : C.prog.funcs[k]? = some fn)
    (witness : ∃ (w : World) (tape : Tape) (i : Input), w.os = os ∧ (w.forCall tape i).Shaped C.prog ∧ i.vars = [] ∧ Input.okWide C.prog (w.forCall tape i) .any w.heap.size k i ∧
      ((s.pre enc C.prog fn [] false (w.forCall tape i).memory i.args ∧ laidMetH C.prog laid (w.forCall tape i).memory) ∧ sizedMet enc C.prog fn (OpenSpec.ofChange s) false (w.forCall tape i).memory i.args) ∧
      Assume.holds {} C.prog (lone (Frame.enter C.prog k i.args .normal) [] (w.forCall tape i)))
    (hv : s.vars.all (varTold C.prog) = true) (hf : fn.resultTypes = #[tb]) (ub : C.prog.underlying tb = some .bool) (hl : laidOutB C.prog = true)
    (hr : (fn.params.toList.all fun t => C.prog.readableRec t && decide (t < C.prog.types.size)) = true)
    (hs : ∀ ds gs : List (DataW H), ds.length = fn.params.size → gs.length = s.vars.length → s.fn H (ds ++ gs) = { results := [.lit (.bool true)], args := ds, vars := gs })
    (walk : ∀ (W : World) (base : Nat) (args : Array Value) (ds : List (DataW H)) (ps : List MemPlace),
      (∀ (j : Nat) t v, fn.params[j]? = some t → args[j]? = some v → Value.okWide C.prog W .any base t v) →
      DataW.TrodAll enc C.prog W 0 (fun _ => true) true fn.params.toList args.toList ds ps → (∀ x ∈ ps, x.block < W.heap.size) → W.noneFrozen ps → laidMetH C.prog laid W →
      Calls C.prog k args W fun e W' => e = .returned (.bool true) ∧ Below W.heap.size W W') :
    ReturnsInHanded {} C os k .any (fun w args => (s.pre enc C.prog fn [] false w args ∧ laidMetH C.prog laid w) ∧ sizedMet enc C.prog fn (OpenSpec.ofChange s) false w args)
      (s.post enc C.prog fn false true false false) := by
  refine returnsInHanded_of_change_and (C := C) (X := fun w _ => laidMetH C.prog laid w) (fun _ _ _ hh h => h.of_heap hh) own started noInit hfn witness ?_
  intro W base args ds gs before hval hW _ _ hL _
  have hW0 := hW
  obtain ⟨p, q, hA, hV, rfl, hz, _⟩ := hW
  have hlt : ∀ x ∈ p, x.block < W.heap.size := fun x hx => hW0.lt x (List.mem_append_left _ hx)
  refine (walk W base args ds p hval hA hlt (fun b off hm => hz b off (List.mem_append_left _ hm)) hL).mono fun e W' ⟨he, hb⟩ => ?_
  subst he
  exact ⟨_, rfl, post_law_vars hv hf ub hl hr hW0 (hs ds gs (by rw [trodAll_length _ _ _ _ hA]; simp) (trodVars_length hV)) hb⟩
end Go.Proofs.YtcbccbefkpklkaaDoor

/- A law's arguments that are paths or rows of paths. -/
namespace Go.Proofs.YtcbccbefkpklkaaDoor
open Go.ChangeShapes Go.WideShapes Go.ChangeAt Go.RowKit Go.Joins
open Go.Deep (oneCellFields open_slice hone_of)

section
variable {H : Type} {enc : TypeId × Value → H} {P : Program}
theorem cell_int {W : World} {b0 : Nat} {sp : Nat → Bool} {hd : Bool} {n : Nat} {t : TypeId} {v : Value} {y : DataW H × List MemPlace} (ht : P.underlying t = some (.int .i64)) (h : DataW.trod enc P W b0 sp hd n t [v] = some y) : ∃ a : Int, v = .int .i64 a ∧ (Lit.int .i64 a).wf = true ∧ y.2 = [] := by
  obtain ⟨a, h1, h2, h3⟩ := DataW.trod_int ht h
  simp at h1
  exact ⟨a, h1, h3, by rw [h2]⟩
theorem arg_path {t : TypeId} {f0 f1 f2 f3 : Field} {W : World} {base : Nat} {v : Value} {d : DataW H} {ps : List MemPlace} (hs : P.underlying t = some (.struct #[f0, f1, f2, f3])) (hone : oneCellFields P #[f0, f1, f2, f3] = true) (hC : P.cellsOf t = 4)
    (h0 : P.underlying f0.type = some (.int .i64)) (h1 : P.underlying f1.type = some (.int .i64)) (h2 : P.underlying f2.type = some (.int .i64)) (h3 : P.underlying f3.type = some (.int .i64))
    (hval : Value.okWide P W .any base t v) (hd : DataW.Trod enc P W 0 (fun _ => true) true t v d ps) : ∃ p : Pth, v = p.val ∧ p.wf := by
  obtain ⟨v0, v1, v2, v3, y0, y1, y2, y3, n, rfl, -, -, t0, t1, t2, t3⟩ := open_agg4 hs hone hC hval hd
  obtain ⟨a, rfl, wa, -⟩ := cell_int h0 t0
  obtain ⟨b, rfl, wb, -⟩ := cell_int h1 t1
  obtain ⟨c, rfl, wc, -⟩ := cell_int h2 t2
  obtain ⟨e, rfl, we, -⟩ := cell_int h3 t3
  exact ⟨⟨a, b, c, e⟩, rfl, wa, wb, wc, we⟩
/-- the elements' fields of a slice of structs. -/
theorem open_slice_fields {w : World} {base : Nat} {spare : Nat → Bool} {held : Bool} {t e : TypeId} {fs : Array Field} {fuel : Nat} {cs : List Value} {x : DataW H × List MemPlace} (ht : P.underlying t = some (.slice e)) (he : P.underlying e = some (.struct fs))
    (hone : oneCellFields P fs = true) (hC : P.cellsOf e = fs.size) (h : DataW.trod enc P w base spare held fuel t cs = some x) :
    (cs = [.slice none 0 0] ∧ x = (.nil, [])) ∨
    ∃ (a : Addr) (len cap m : Nat) (D : Nat → DataW H) (Pl : Nat → List MemPlace), cs = [.slice (some a) len cap] ∧ base ≤ a.block ∧ len ≤ cap ∧ cap ≤ maxLen ∧ m = (if spare a.block then cap else len) ∧
      x = (.slice ((List.range len).map D) ((List.range (m - len)).map fun j => D (len + j)), MemPlace.row a (m * fs.size) ++ (List.range m).flatMap Pl) ∧
      ∀ i, i < m → ∃ (ys : List (DataW H × List MemPlace)) (n : Nat), D i = .agg (ys.map (·.1)) ∧ Pl i = ys.flatMap (·.2) ∧ ys.length = fs.size ∧
        ∀ (j : Nat) (f : Field), fs[j]? = some f → ∃ (v : Value) (y : DataW H × List MemPlace), w.cell? (a.add (i * fs.size + j)) = some v ∧ ys[j]? = some y ∧ DataW.trod enc P w base spare held n f.type [v] = some y := by
  rcases open_slice ht h with h0 | ⟨a, len, cap, m, n, D, Pl, hcs, hb, hl, hm, hmm, hx, hi⟩
  · exact .inl h0
  · refine .inr ⟨a, len, cap, m, D, Pl, hcs, hb, hl, hm, hmm, by rw [hC] at hx; exact hx, fun i him => ?_⟩
    obtain ⟨cs', hc, ht'⟩ := hi i him
    rw [hC] at hc
    obtain ⟨ys, n', hn', hy, hlen, hyl, hf⟩ := DataW.trod_struct he ht'
    obtain ⟨_, hcl, hat⟩ := World.cells?_some hc
    simp only [Prod.mk.injEq] at hy
    refine ⟨ys, n', hy.1, hy.2, hyl, fun j f hj => ?_⟩
    obtain ⟨ho, hk⟩ := hone_of hone j f hj
    have hjl : j < fs.size := (Array.getElem?_eq_some_iff.1 hj).1
    have hcell := hat j hjl
    have hv : cs'[j]? = some (cs'[j]'(by omega)) := List.getElem?_eq_getElem (by omega)
    have h1 := hf j f hj
    rw [ho, hk] at h1
    have hone' : (cs'.drop j).take 1 = [cs'[j]'(by omega)] := by
      rw [List.drop_eq_getElem_cons (by omega)]
      rfl
    rw [hone'] at h1
    have hys : ys[j]? = some (ys[j]'(by omega)) := List.getElem?_eq_getElem (by omega)
    refine ⟨_, _, ?_, hys, h1.trans hys⟩
    rw [← Go.Deep.add_add, hcell, hv]
theorem choose_upto {α : Type} {n : Nat} {R : Nat → α → Prop} (h : ∀ i, i < n → ∃ x, R i x) : ∃ l : List α, l.length = n ∧ ∀ (i : Nat) x, l[i]? = some x → R i x := by
  induction n with
  | zero => exact ⟨[], rfl, fun i x hi => by simp at hi⟩
  | succ n ih =>
    obtain ⟨l, hl, hR⟩ := ih fun i hi => h i (by omega)
    obtain ⟨x, hx⟩ := h n (by omega)
    refine ⟨l ++ [x], by simp [hl], fun i y hy => ?_⟩
    rw [List.getElem?_append] at hy
    split at hy
    · exact hR i y hy
    · rename_i hge
      have hi : i = n := by
        have := (List.getElem?_eq_some_iff.1 hy).1
        simp at this
        omega
      subst hi
      simp [hl] at hy
      subst hy
      exact hx
/-- A slice of paths that came in. -/
theorem arg_paths {t e : TypeId} {f0 f1 f2 f3 : Field} {W : World} {base : Nat} {v : Value} {d : DataW H} {ps : List MemPlace} (ht : P.underlying t = some (.slice e)) (he : P.underlying e = some (.struct #[f0, f1, f2, f3])) (hone : oneCellFields P #[f0, f1, f2, f3] = true) (hC : P.cellsOf e = 4)
    (h0 : P.underlying f0.type = some (.int .i64)) (h1 : P.underlying f1.type = some (.int .i64)) (h2 : P.underlying f2.type = some (.int .i64)) (h3 : P.underlying f3.type = some (.int .i64))
    (hval : Value.okWide P W .any base t v) (hd : DataW.Trod enc P W 0 (fun _ => true) true t v d ps) (hlt : ∀ x ∈ ps, x.block < W.heap.size) :
    ∃ (A : Option Addr) (n c : Nat) (zs : List Pth), v = .slice A n c ∧ (PthsAt W W.heap.size A n zs ∧ (∀ z ∈ zs, z.wf) ∧ n ≤ c ∧ c ≤ maxLen) := by
  obtain ⟨a, len, cap, rfl⟩ := okWide_slice ht hval
  obtain ⟨fuel, hf⟩ := hd
  rcases open_slice_fields ht he hone (by rw [hC]; rfl) hf with ⟨h1, _⟩ | ⟨a', len', cap', m, D, Pl, hcs, _, hl, hm, hmm, hx, hi⟩
  · have h1' : [Value.slice a len cap] = [Value.slice none 0 0] := h1
    simp only [List.cons.injEq, and_true] at h1'
    exact ⟨none, 0, 0, [], h1', ⟨rfl, rfl, fun h => absurd h (by omega)⟩, by simp, Nat.le_refl _, Nat.zero_le _⟩
  · have h1' : [Value.slice a len cap] = [Value.slice (some a') len' cap'] := hcs
    simp only [List.cons.injEq, and_true] at h1'
    rw [if_pos rfl] at hmm
    subst hmm
    obtain ⟨zs, hzl, hz⟩ := choose_upto (n := len') (R := fun i (p : Pth) => p.wf ∧ ∀ (j : Nat) u, p.cells[j]? = some u → W.cell? (a'.add (i * 4 + j)) = some u) (fun i hil => by
      obtain ⟨ys, n, _, _, _, hj⟩ := hi i (by omega)
      obtain ⟨v0, y0, c0, _, t0⟩ := hj 0 f0 rfl
      obtain ⟨v1, y1, c1, _, t1⟩ := hj 1 f1 rfl
      obtain ⟨v2, y2, c2, _, t2⟩ := hj 2 f2 rfl
      obtain ⟨v3, y3, c3, _, t3⟩ := hj 3 f3 rfl
      obtain ⟨x0, rfl, w0, -⟩ := cell_int h0 t0
      obtain ⟨x1, rfl, w1, -⟩ := cell_int h1 t1
      obtain ⟨x2, rfl, w2, -⟩ := cell_int h2 t2
      obtain ⟨x3, rfl, w3, -⟩ := cell_int h3 t3
      refine ⟨⟨x0, x1, x2, x3⟩, ⟨w0, w1, w2, w3⟩, fun j u hu => ?_⟩
      match j, hu with
      | 0, hu => simp [Pth.cells] at hu; subst hu; exact c0
      | 1, hu => simp [Pth.cells] at hu; subst hu; exact c1
      | 2, hu => simp [Pth.cells] at hu; subst hu; exact c2
      | 3, hu => simp [Pth.cells] at hu; subst hu; exact c3
      | j + 4, hu => simp [Pth.cells] at hu)
    refine ⟨some a', len', m, zs, h1', ⟨hzl, by rw [pcells_length, hzl], fun hn => ⟨a', rfl, ?_, fun j u hu => ?_⟩⟩, fun z hzm => ?_, hl, hm⟩
    · have hmem : MemPlace.cell a'.block (a'.off + 0) ∈ ps := by
        have e := congrArg Prod.snd hx
        simp only at e
        rw [e]
        exact List.mem_append_left _ (List.mem_map.2 ⟨0, List.mem_range.2 (by simp; omega), rfl⟩)
      exact hlt _ hmem
    · have hlen : j < zs.length * 4 := by
        have := (List.getElem?_eq_some_iff.1 hu).1
        rwa [pcells_length] at this
      have hd4 : j / 4 < zs.length := by omega
      have hp : zs[j / 4]? = some zs[j / 4] := List.getElem?_eq_getElem hd4
      have hg := flat_get (s := 4) (f := Pth.cells) (fun _ => rfl) zs (j / 4) (j % 4) _ hp (by omega)
      have ej : j / 4 * 4 + j % 4 = j := by clear hi hz hx; omega
      rw [ej] at hg
      have := (hz _ _ hp).2 (j % 4) u (hg.symm.trans hu)
      rwa [ej] at this
    · obtain ⟨i, hil, rfl⟩ := List.getElem_of_mem hzm
      exact (hz i _ (List.getElem?_eq_getElem hil)).1
end
end Go.Proofs.YtcbccbefkpklkaaDoor

/- A law's arguments that are rows of parts. -/
namespace Go.Proofs.YtcbccbefkpklkaaDoor
open Go.ChangeShapes Go.WideShapes Go.ChangeAt Go.RowKit Go.Joins
open Go.Deep (oneCellFields open_slice hone_of)

section
variable {H : Type} {enc : TypeId × Value → H} {P : Program}
/-- A slice of parts that came in. -/
theorem arg_prts {t e i : TypeId} {f0 f1 : Field} {W : World} {base : Nat} {v : Value} {d : DataW H} {ps : List MemPlace} (ht : P.underlying t = some (.slice e)) (he : P.underlying e = some (.struct #[f0, f1])) (hone : oneCellFields P #[f0, f1] = true) (hC : P.cellsOf e = 2)
    (h0 : P.underlying f0.type = some (.slice i)) (hi : P.underlying i = some (.int .i64)) (hci : P.cellsOf i = 1) (h1 : P.underlying f1.type = some (.int .i64))
    (hval : Value.okWide P W .any base t v) (hd : DataW.Trod enc P W 0 (fun _ => true) true t v d ps) (hlt : ∀ x ∈ ps, x.block < W.heap.size) :
    ∃ (A : Option Addr) (n c : Nat) (zs : List Prt), v = .slice A n c ∧ (PrtsAt W W.heap.size A n zs ∧ (∀ z ∈ zs, z.wf) ∧ n ≤ c ∧ c ≤ maxLen) := by
  obtain ⟨a, len, cap, rfl⟩ := okWide_slice ht hval
  obtain ⟨fuel, hf⟩ := hd
  rcases open_slice_fields ht he hone (by rw [hC]; rfl) hf with ⟨h1, _⟩ | ⟨a', len', cap', m, D, Pl, hcs, _, hl, hm, hmm, hx, hii⟩
  · have h1' : [Value.slice a len cap] = [Value.slice none 0 0] := h1
    simp only [List.cons.injEq, and_true] at h1'
    exact ⟨none, 0, 0, [], h1', ⟨rfl, fun h => absurd h (by omega)⟩, by simp, Nat.le_refl _, Nat.zero_le _⟩
  · have h1' : [Value.slice a len cap] = [Value.slice (some a') len' cap'] := hcs
    simp only [List.cons.injEq, and_true] at h1'
    rw [if_pos rfl] at hmm
    subst hmm
    have hps : ps = MemPlace.row a' (m * 2) ++ (List.range m).flatMap Pl := congrArg Prod.snd hx
    obtain ⟨zs, hzl, hz⟩ := choose_upto (n := len') (R := fun j (p : Prt) => p.wf ∧ ∃ A' m' c', PrtAt W (a'.add (j * 2)) (.slice A' m' c') p.green ∧ IntsAt .i64 W W.heap.size A' m' p.stage ∧ (m' ≤ c' ∧ c' ≤ maxLen) ∧ (A' = none → m' = 0 ∧ c' = 0)) (fun j hjl => by
      obtain ⟨ys, n, _, hPl, _, hj⟩ := hii j (by omega)
      obtain ⟨v0, y0, c0, g0, t0⟩ := hj 0 f0 rfl
      obtain ⟨v1, y1, c1, _, t1⟩ := hj 1 f1 rfl
      obtain ⟨x1, rfl, w1, -⟩ := cell_int h1 t1
      have c1' : W.cell? ⟨(a'.add (j * 2)).block, (a'.add (j * 2)).off + 1, none⟩ = some (.int .i64 x1) := by
        rw [← add_plus _ 1 (by decide), add_add]
        exact c1
      rcases open_ints h0 hi hci t0 with ⟨h2, _⟩ | ⟨b, l2, cp2, zs, h2, _, hl2, hm2, hzl2, hx2, hc2, hwf2⟩
      · simp only [List.cons.injEq, and_true] at h2
        exact ⟨⟨[], x1⟩, ⟨Nat.zero_le _, by simp, w1⟩, none, 0, 0, ⟨by rw [← h2]; exact c0, c1'⟩, ⟨rfl, fun h => absurd h (by omega)⟩, ⟨Nat.le_refl _, Nat.zero_le _⟩, fun _ => ⟨rfl, rfl⟩⟩
      · simp only [List.cons.injEq, and_true] at h2
        rw [if_pos rfl] at hzl2
        refine ⟨⟨zs.take l2, x1⟩, ⟨by simp only [List.length_take]; omega, fun z hzm => hwf2 z (List.mem_of_mem_take hzm), w1⟩, some b, l2, cp2, ⟨by rw [← h2]; exact c0, c1'⟩, ⟨by simp only [List.length_take]; omega, fun hn => ⟨b, rfl, ?_, fun q hq => ?_⟩⟩, ⟨hl2, hm2⟩, by simp⟩
        · have hmem : MemPlace.cell b.block (b.off + 0) ∈ ps := by
            rw [hps]
            refine List.mem_append_right _ (List.mem_flatMap.2 ⟨j, List.mem_range.2 (by omega), ?_⟩)
            rw [hPl]
            refine List.mem_flatMap.2 ⟨y0, List.mem_of_getElem? g0, ?_⟩
            have e2 : y0.2 = MemPlace.row b zs.length := congrArg Prod.snd hx2
            rw [e2]
            exact List.mem_map.2 ⟨0, List.mem_range.2 (by omega), rfl⟩
          exact hlt _ hmem
        · rw [hc2 q (by omega)]
          simp [List.getD_eq_getElem?_getD, hq])
    refine ⟨some a', len', m, zs, h1', ⟨hzl, fun hn => ⟨a', rfl, ?_, fun j hj => ?_⟩⟩, fun z hzm => ?_, hl, hm⟩
    · have hmem : MemPlace.cell a'.block (a'.off + 0) ∈ ps := by
        rw [hps]
        exact List.mem_append_left _ (List.mem_map.2 ⟨0, List.mem_range.2 (by omega), rfl⟩)
      exact hlt _ hmem
    · exact (hz j _ (prAt_get (by omega))).2
    · obtain ⟨j, hj, rfl⟩ := List.getElem_of_mem hzm
      exact (hz j _ (List.getElem?_eq_getElem hj)).1
end
end Go.Proofs.YtcbccbefkpklkaaDoor
