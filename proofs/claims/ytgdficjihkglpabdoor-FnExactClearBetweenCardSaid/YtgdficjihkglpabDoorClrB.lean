/- Chapter 7's ClearBetween as Lean data: by lists, and by sets. No walk. -/
import Derived.Test.YtgdficjihkglpabDoorSetEq
import Derived.Test.YtgdficjihkglpabDoorClrP
namespace Go.Proofs.YtgdficjihkglpabDoor
open Go.RowKit
set_option linter.unusedVariables false

/-- the path of this Id. -/
def idP (ps : List Pth) (id : Int) : Pth := pAt ps ((findK id ps).getD 0)
/-- p conflicts with one of the first k. -/
def holdTo (ps : List Pth) (p : Pth) (ys : List Int) (k : Nat) : Bool := (ys.take k).any fun y => conf p (idP ps y)
theorem hold_zero (ps : List Pth) (p : Pth) (ys : List Int) : holdTo ps p ys 0 = false := by simp [holdTo]
theorem hold_succ {ps : List Pth} {p : Pth} {ys : List Int} {k : Nat} (h : k < ys.length) : holdTo ps p ys (k + 1) = (holdTo ps p ys k || conf p (idP ps (ys.getD k 0))) := by
  unfold holdTo
  rw [List.take_add_one, List.any_append, List.getElem?_eq_getElem h, List.getD_eq_getElem?_getD, List.getElem?_eq_getElem h]
  simp
/-- the greatest with one more path, if that must clear. -/
def clrIn (m : Int) (p : Pth) (b : Bool) : Int := if b then maxI m (clearN p) else m
theorem clrIn_no (m : Int) (p : Pth) : clrIn m p false = m := rfl
theorem clrIn_yes (m : Int) (p : Pth) (b : Bool) : maxI (clrIn m p b) (clearN p) = clrIn m p true := by
  cases b
  · rfl
  · show maxI (maxI m (clearN p)) (clearN p) = maxI m (clearN p)
    unfold maxI
    by_cases h : m < clearN p
    · rw [if_pos h, if_neg (by omega)]
    · rw [if_neg h, if_neg h]
/-- the greatest of the first k. -/
def clrTo (ps : List Pth) (xs ys : List Int) : Nat → Int
  | 0 => 0
  | k + 1 => clrIn (clrTo ps xs ys k) (idP ps (xs.getD k 0)) (holdTo ps (idP ps (xs.getD k 0)) ys ys.length)
theorem clrIn_bound {m : Int} (p : Pth) (b : Bool) (h : 0 ≤ m ∧ m ≤ 5) : 0 ≤ clrIn m p b ∧ clrIn m p b ≤ 5 := by
  have := clearN_bound p
  unfold clrIn maxI
  split
  · split <;> omega
  · exact h
theorem clrTo_bound (ps : List Pth) (xs ys : List Int) : ∀ k, 0 ≤ clrTo ps xs ys k ∧ clrTo ps xs ys k ≤ 5
  | 0 => by simp [clrTo]
  | k + 1 => clrIn_bound _ _ (clrTo_bound ps xs ys k)
/-- what ClearBetween answers. -/
def clrB (ps : List Pth) (a b : List Int) : Int := if isTog ps a && isTog ps b then clrTo ps (closL a b) (closL b a) (closL a b).length else 0
theorem clrB_bound (ps : List Pth) (a b : List Int) : 0 ≤ clrB ps a b ∧ clrB ps a b ≤ 5 := by
  unfold clrB
  split
  · exact clrTo_bound _ _ _ _
  · omega
theorem clrB_off {ps : List Pth} {a b : List Int} (h : (isTog ps a && isTog ps b) = false) : clrB ps a b = 0 := by unfold clrB; rw [h]; rfl
theorem clrB_on {ps : List Pth} {a b : List Int} (h : isTog ps a = true) (h2 : isTog ps b = true) : clrB ps a b = clrTo ps (closL a b) (closL b a) (closL a b).length := by unfold clrB; rw [h, h2]; rfl

/-! By sets. -/
def minusM (a b : Nat) : Nat := a &&& (65535 - b)
theorem minus_bit {a b : Nat} (ha : a < 65536) (hb : b < 65536) (i : Nat) : (minusM a b).testBit i = (a.testBit i && !b.testBit i) := by
  unfold minusM
  rw [Nat.testBit_and]
  have e : 65535 - b = 2 ^ 16 - (b + 1) := by omega
  rw [e, Nat.testBit_two_pow_sub_succ (by omega)]
  by_cases hi : i < 16
  · simp [hi]
  · have : a.testBit i = false := Nat.testBit_lt_two_pow (Nat.lt_of_lt_of_le ha (by
      have : 2 ^ 16 ≤ 2 ^ i := Nat.pow_le_pow_right (by decide) (by omega)
      omega))
    simp [this]
theorem minus_lt {a b n : Nat} (ha : a < 2 ^ n) : minusM a b < 2 ^ n := Nat.lt_of_le_of_lt Nat.and_le_left ha
theorem u16_minus {a b : Nat} (ha : a < 65536) (hb : b < 65536) : bits .andNot .u16 (a : Int) (b : Int) = ((minusM a b : Nat) : Int) := u16_andNot_nat a b ha hb
theorem mostTo_fold (ps : List Pth) : ∀ k, k ≤ ps.length → mostTo ps k = (ps.take k).foldl (fun m p => maxI m (clearN p)) 0
  | 0, _ => rfl
  | k + 1, h => by
    have ih := mostTo_fold ps k (by omega)
    have e : ps[k]? = some (pAt ps k) := by rw [List.getElem?_eq_getElem (by omega)]; unfold pAt; rw [List.getD_eq_getElem?_getD, List.getElem?_eq_getElem (by omega)]; rfl
    rw [List.take_add_one, e, List.foldl_append, ← ih]
    rfl
theorem clrTo_fold (ps : List Pth) (xs ys : List Int) : ∀ k, k ≤ xs.length → clrTo ps xs ys k = (xs.take k).foldl (fun m x => clrIn m (idP ps x) (holdTo ps (idP ps x) ys ys.length)) 0
  | 0, _ => rfl
  | k + 1, h => by
    have ih := clrTo_fold ps xs ys k (by omega)
    have e : xs[k]? = some (xs.getD k 0) := by rw [List.getD_eq_getElem?_getD, List.getElem?_eq_getElem (by omega)]; rfl
    rw [List.take_add_one, e, List.foldl_append, ← ih]
    rfl
theorem fold_filter (ps : List Pth) (g : Nat → Bool) : ∀ (l : List Nat) (m : Int), l.foldl (fun m j => clrIn m (pAt ps j) (g j)) m = ((l.filter g).map (pAt ps)).foldl (fun m p => maxI m (clearN p)) m
  | [], _ => rfl
  | j :: l, m => by
    rw [List.foldl_cons, fold_filter ps g l]
    cases h : g j
    · rw [List.filter_cons_of_neg (by simp [h])]; rfl
    · rw [List.filter_cons_of_pos h]; rfl
/-- the path with the index i must clear, from one set to the next. -/
def mustI (f : Nat → Nat) (a b i : Nat) : Bool := (minusM a b).testBit i && decide (f i &&& minusM b a ≠ 0)
/-- the paths that must clear among the first k. -/
def clrL (ps : List Pth) (f : Nat → Nat) (a b k : Nat) : List Pth := ((List.range k).filter (mustI f a b)).map (pAt ps)
theorem clrL_zero (ps : List Pth) (f : Nat → Nat) (a b : Nat) : clrL ps f a b 0 = [] := rfl
theorem clrL_succ (ps : List Pth) (f : Nat → Nat) (a b k : Nat) : clrL ps f a b (k + 1) = clrL ps f a b k ++ (if mustI f a b k then [pAt ps k] else []) := by
  unfold clrL
  rw [List.range_succ, List.filter_append, List.map_append]
  congr 1
  cases h : mustI f a b k <;> simp [h]
theorem clrL_len (ps : List Pth) (f : Nat → Nat) (a b k : Nat) : (clrL ps f a b k).length ≤ k := by
  unfold clrL
  rw [List.length_map]
  exact Nat.le_trans (List.length_filter_le _ _) (by rw [List.length_range]; exact Nat.le_refl _)
theorem clrL_wf {ps : List Pth} (h : ∀ p ∈ ps, p.wf) (f : Nat → Nat) (a b k : Nat) (hk : k ≤ ps.length) : ∀ p ∈ clrL ps f a b k, p.wf := by
  intro p hp
  unfold clrL at hp
  obtain ⟨j, hj, rfl⟩ := List.mem_map.1 hp
  have hj := List.mem_range.1 (List.mem_filter.1 hj).1
  unfold pAt
  rw [List.getD_eq_getElem?_getD, List.getElem?_eq_getElem (by omega)]
  exact h _ (List.getElem_mem _)
/-- what the program's clearBetween answers. -/
def clrS (ps : List Pth) (f : Nat → Nat) (a b : Nat) : Int := mostTo (clrL ps f a b ps.length) (clrL ps f a b ps.length).length
theorem clrS_bound (ps : List Pth) (f : Nat → Nat) (a b : Nat) : 0 ≤ clrS ps f a b ∧ clrS ps f a b ≤ 5 := mostTo_bound _ _
theorem idP_at {ps : List Pth} (ha : arePs ps = true) {j : Nat} (hj : j < ps.length) : idP ps (idAt ps j) = pAt ps j := by unfold idP; rw [findK_of ha hj]; rfl
theorem clos_ids {ps : List Pth} (ha : arePs ps = true) {a b : Nat} (hA : a < 2 ^ ps.length) (hB : b < 2 ^ ps.length) : closL (idsM ps a) (idsM ps b) = idsM ps (minusM a b) := by
  have h12 := arePs_len12 ha
  have hp := pow_le12 h12
  refine asc_int (List.Pairwise.filter _ (idsM_asc ha hA)) (idsM_asc ha (minus_lt hA)) fun x => ?_
  unfold closL
  rw [List.mem_filter, idsM_mem h12 hA, idsM_mem h12 (minus_lt hA)]
  constructor
  · rintro ⟨⟨j, h1, rfl⟩, h2⟩
    have hj := bit_in hA h1
    rw [has_ids ha hB hj] at h2
    exact ⟨j, by rw [minus_bit (by omega) (by omega), h1]; exact h2, rfl⟩
  · rintro ⟨j, h1, rfl⟩
    rw [minus_bit (by omega) (by omega), Bool.and_eq_true] at h1
    have hj := bit_in hA h1.1
    exact ⟨⟨j, h1.1, rfl⟩, by rw [has_ids ha hB hj]; exact h1.2⟩
theorem hold_mask {ps : List Pth} (ha : arePs ps = true) {m k : Nat} (hm : m < 2 ^ ps.length) (hk : k < ps.length) : holdTo ps (pAt ps k) (idsM ps m) (idsM ps m).length = decide (rowSt ps ps.length 0 k &&& m ≠ 0) := by
  have h12 := arePs_len12 ha
  have hz := row_zero hm h12 hk
  unfold holdTo
  rw [List.take_length, Bool.eq_iff_iff, List.any_eq_true, decide_eq_true_eq, Ne, hz]
  constructor
  · rintro ⟨x, hx, hc⟩ h
    obtain ⟨j, h1, rfl⟩ := (idsM_mem h12 hm x).1 hx
    rw [idP_at ha (bit_in hm h1), h j h1] at hc
    cases hc
  · intro h
    have : ∃ b, m.testBit b = true ∧ ¬ conf (pAt ps k) (pAt ps b) = false := by
      apply Classical.byContradiction
      intro hn
      exact h fun b hb => Classical.byContradiction fun hc => hn ⟨b, hb, hc⟩
    obtain ⟨b, hb, hc⟩ := this
    exact ⟨idAt ps b, (idsM_mem h12 hm _).2 ⟨b, hb, rfl⟩, by rw [idP_at ha (bit_in hm hb)]; simpa using hc⟩
theorem bits_range {n m : Nat} (hn : n ≤ 12) (hm : m < 2 ^ n) : bitsOf m = (List.range n).filter m.testBit := by
  refine asc_nat (bits_asc _) (List.Pairwise.filter _ List.pairwise_lt_range) fun x => ?_
  rw [bitsOf_mem, List.mem_filter, List.mem_range]
  exact ⟨fun h => ⟨bit_in hm h.2, h.2⟩, fun h => ⟨by omega, h.2⟩⟩
theorem clr_mask {ps : List Pth} (ha : arePs ps = true) {a b : Nat} (hA : a < 2 ^ ps.length) (hB : b < 2 ^ ps.length) (hfa : freeM ps a) (hfb : freeM ps b) : clrB ps (idsM ps a) (idsM ps b) = clrS ps (rowSt ps ps.length 0) a b := by
  have h12 := arePs_len12 ha
  rw [clrB_on ((tog_mask ha hA).2 hfa) ((tog_mask ha hB).2 hfb), clos_ids ha hA hB, clos_ids ha hB hA]
  unfold clrS
  rw [mostTo_fold _ _ (Nat.le_refl _), clrTo_fold _ _ _ _ (Nat.le_refl _), List.take_length, List.take_length, idsM_bits ps (minusM a b), List.foldl_map]
  have e : ∀ (l : List Nat) (m : Int), (∀ j ∈ l, j < ps.length) → l.foldl (fun m j => clrIn m (idP ps (idAt ps j)) (holdTo ps (idP ps (idAt ps j)) (idsM ps (minusM b a)) (idsM ps (minusM b a)).length)) m = l.foldl (fun m j => clrIn m (pAt ps j) (decide (rowSt ps ps.length 0 j &&& minusM b a ≠ 0))) m := by
    intro l
    induction l with
    | nil => intro m _; rfl
    | cons j l ih =>
      intro m h
      have hj := h j List.mem_cons_self
      rw [List.foldl_cons, List.foldl_cons, idP_at ha hj, hold_mask ha (minus_lt hB) hj]
      exact ih _ fun k hk => h k (List.mem_cons_of_mem _ hk)
  rw [e _ _ fun j hj => bit_in (minus_lt hA) (bitsOf_mem.1 hj).2, fold_filter, bits_range h12 (minus_lt hA), List.filter_filter]
  unfold clrL
  congr 3
  funext j
  unfold mustI
  rw [Bool.and_comm]
end Go.Proofs.YtgdficjihkglpabDoor
