/- Texts of one chain, put together: LgtB RowB Flat RowI RowF RowG RowL Det DemP ShrB PlnL LgtM LawPln2 ShrM LawPln3. -/
import Derived.Laws.Rows
import Derived.Deep.RegionHeld3
import Derived.Deep.DrawnRows
import Derived.Test.YtmbbmffoihhdfaaDoorBndlC
set_option linter.unusedSimpArgs false
/- Chapter 9's lights as Lean data. No walk. -/
namespace Go.Proofs.YtmbbmffoihhdfaaDoor
open Go.RowKit
set_option linter.unusedVariables false

/-- the last part that has begun at s, of those up to k. -/
def locD (ps : List Pth) (p : List Prt) (s : Int) : Nat → Nat
  | 0 => 0
  | k + 1 => if sumTo ps p (k + 1) ≤ s then k + 1 else locD ps p s k
theorem locD_le (ps : List Pth) (p : List Prt) (s : Int) : ∀ k, locD ps p s k ≤ k
  | 0 => Nat.le_refl _
  | k + 1 => by
    unfold locD
    split
    · exact Nat.le_refl _
    · exact Nat.le_succ_of_le (locD_le ps p s k)
theorem locD_here {ps : List Pth} {p : List Prt} {s : Int} {k : Nat} (h : sumTo ps p k ≤ s) : locD ps p s k = k := by
  cases k with
  | zero => rfl
  | succ k => unfold locD; rw [if_pos h]
theorem locD_down {ps : List Pth} {p : List Prt} {s : Int} {k : Nat} (h : s < sumTo ps p (k + 1)) : locD ps p s (k + 1) = locD ps p s k := by
  conv => lhs; unfold locD
  rw [if_neg (by omega)]
theorem sumTo_mono {ps : List Pth} {p : List Prt} (h : isPlan ps p = true) {i : Nat} : ∀ {j : Nat}, i ≤ j → j ≤ p.length → sumTo ps p i ≤ sumTo ps p j
  | 0, h1, _ => by
    obtain rfl : i = 0 := by omega
    exact Int.le_refl _
  | j + 1, h1, h2 => by
    by_cases e : i = j + 1
    · rw [e]; exact Int.le_refl _
    · have ih := sumTo_mono h (i := i) (j := j) (by omega) (by omega)
      have := longAt_bound h (show j < p.length by omega)
      show sumTo ps p i ≤ sumTo ps p j + longAt ps p j
      omega
theorem locD_eq {ps : List Pth} {p : List Prt} (h : isPlan ps p = true) {s : Int} {i : Nat} (h1 : sumTo ps p i ≤ s) (h2 : s < sumTo ps p (i + 1)) : ∀ {k : Nat}, i ≤ k → k < p.length → locD ps p s k = i
  | 0, hi, _ => by
    obtain rfl : i = 0 := by omega
    rfl
  | k + 1, hi, hk => by
    by_cases e : i = k + 1
    · subst e
      exact locD_here h1
    · have := sumTo_mono h (i := i + 1) (j := k + 1) (by omega) (by omega)
      rw [locD_down (by omega)]
      exact locD_eq h h1 h2 (by omega) (by omega)
def locP (ps : List Pth) (p : List Prt) (s : Int) : Nat := locD ps p s (p.length - 1)
theorem locP_lt {ps : List Pth} {p : List Prt} (h : isPlan ps p = true) (s : Int) : locP ps p s < p.length := by
  obtain ⟨⟨h1, _⟩, _⟩ := isPlan_parts h
  have := locD_le ps p s (p.length - 1)
  unfold locP
  omega
theorem locD_spec {ps : List Pth} {p : List Prt} {s : Int} (h0 : 0 ≤ s) : ∀ {k : Nat}, s < sumTo ps p (k + 1) → sumTo ps p (locD ps p s k) ≤ s ∧ s < sumTo ps p (locD ps p s k + 1)
  | 0, h => ⟨h0, h⟩
  | k + 1, h => by
    by_cases e : sumTo ps p (k + 1) ≤ s
    · rw [locD_here e]; exact ⟨e, h⟩
    · rw [locD_down (by omega)]
      exact locD_spec h0 (by omega)
theorem locP_spec {ps : List Pth} {p : List Prt} (h : isPlan ps p = true) {s : Int} (h0 : 0 ≤ s) (h1 : s < sumTo ps p p.length) : sumTo ps p (locP ps p s) ≤ s ∧ s < sumTo ps p (locP ps p s) + longAt ps p (locP ps p s) := by
  obtain ⟨⟨h2, _⟩, _⟩ := isPlan_parts h
  exact locD_spec h0 (k := p.length - 1) (by rw [Nat.sub_add_cancel h2]; exact h1)
/-- what PartAt answers. -/
def partP (ps : List Pth) (p : List Prt) (t : Int) : Int × Int :=
  if isPlan ps p && inB t 0 1000000 then ((locP ps p (t % sumTo ps p p.length) : Int), t % sumTo ps p p.length - sumTo ps p (locP ps p (t % sumTo ps p p.length))) else (-1, 0)
/-- what a part shows to a path, so many seconds after it began. -/
def lightJ (ps : List Pth) (p : List Prt) (j : Nat) (s : Int) (id : Int) : Int :=
  if hasI (prAt p j).stage id then (if decide (s < (prAt p j).green) || hasI (prAt p (nextJ p j)).stage id then 1 else if s < (prAt p j).green + clearN (idP ps id) then 2 else 0) else 0
theorem lightJ_bound (ps : List Pth) (p : List Prt) (j : Nat) (s : Int) (id : Int) : 0 ≤ lightJ ps p j s id ∧ lightJ ps p j s id ≤ 2 := by
  unfold lightJ
  split
  · split
    · omega
    · split <;> omega
  · omega
/-- what LightAt answers. -/
def lightP (ps : List Pth) (p : List Prt) (t id : Int) : Int :=
  if isPlan ps p && inB t 0 1000000 && (findK id ps).isSome then lightJ ps p (locP ps p (t % sumTo ps p p.length)) (t % sumTo ps p p.length - sumTo ps p (locP ps p (t % sumTo ps p p.length))) id else 0
theorem lightP_bound (ps : List Pth) (p : List Prt) (t id : Int) : 0 ≤ lightP ps p t id ∧ lightP ps p t id ≤ 2 := by
  unfold lightP
  split
  · exact lightJ_bound _ _ _ _ _
  · omega
/-- what LightsAt answers. -/
def lightsP (ps : List Pth) (p : List Prt) (t : Int) : List Int := ps.map fun q => lightP ps p t q.id
/-- the lights of one part. -/
def rowJ (ps : List Pth) (p : List Prt) (id : Int) (j : Nat) : List Int := (List.range (longAt ps p j).toNat).map fun (s : Nat) => lightJ ps p j s id
theorem rowJ_len (ps : List Pth) (p : List Prt) (id : Int) (j : Nat) : (rowJ ps p id j).length = (longAt ps p j).toNat := by simp [rowJ]
/-- the lights of the first k parts. -/
def rowTo (ps : List Pth) (p : List Prt) (id : Int) : Nat → List Int
  | 0 => []
  | k + 1 => rowTo ps p id k ++ rowJ ps p id k
theorem rowTo_len {ps : List Pth} {p : List Prt} (h : isPlan ps p = true) (id : Int) : ∀ k, k ≤ p.length → ((rowTo ps p id k).length : Int) = sumTo ps p k
  | 0, _ => rfl
  | k + 1, hk => by
    have ih := rowTo_len h id k (by omega)
    have := longAt_bound h (show k < p.length by omega)
    show (((rowTo ps p id k ++ rowJ ps p id k).length : Nat) : Int) = sumTo ps p k + longAt ps p k
    rw [List.length_append, rowJ_len]
    omega
/-- the lights of one cycle. -/
def rowP (ps : List Pth) (p : List Prt) (id : Int) : List Int := if isPlan ps p && (findK id ps).isSome then rowTo ps p id p.length else []
theorem rowTo_at {ps : List Pth} {p : List Prt} (h : isPlan ps p = true) (id : Int) {j : Nat} {x : Nat} (hx : (x : Int) < longAt ps p j) : ∀ k, j < k → k ≤ p.length → (rowTo ps p id k).getD ((sumTo ps p j).toNat + x) 0 = lightJ ps p j x id
  | 0, hj, _ => absurd hj (by omega)
  | k + 1, hj, hk => by
    have hl := rowTo_len h id k (by omega)
    have hj0 := (sumTo_bound h j (by omega)).1
    show (rowTo ps p id k ++ rowJ ps p id k).getD _ 0 = _
    by_cases e : j = k
    · subst e
      rw [List.getD_eq_getElem?_getD, List.getElem?_append_right (by omega), show (sumTo ps p j).toNat + x - (rowTo ps p id j).length = x by omega]
      unfold rowJ
      rw [List.getElem?_map, List.getElem?_range (by omega)]
      rfl
    · have ih := rowTo_at h id hx k (by omega) (by omega)
      have hm := sumTo_mono h (i := j + 1) (j := k) (by omega) (by omega)
      have hs : sumTo ps p (j + 1) = sumTo ps p j + longAt ps p j := rfl
      rw [List.getD_eq_getElem?_getD, List.getElem?_append_left (by omega), ← List.getD_eq_getElem?_getD]
      exact ih
/-- a cycle's second shows what LightAt says. -/
theorem row_light {ps : List Pth} {p : List Prt} (h : isPlan ps p = true) (id : Int) {s : Int} (h0 : 0 ≤ s) (h1 : s < sumTo ps p p.length) : (rowTo ps p id p.length).getD s.toNat 0 = lightJ ps p (locP ps p s) (s - sumTo ps p (locP ps p s)) id := by
  obtain ⟨h2, h3⟩ := locP_spec h h0 h1
  have hl := locP_lt h s
  have hb := (sumTo_bound h (locP ps p s) (by omega)).1
  generalize locP ps p s = j at *
  obtain ⟨x, hx⟩ : ∃ x : Nat, s - sumTo ps p j = x := ⟨(s - sumTo ps p j).toNat, by omega⟩
  rw [hx, ← rowTo_at h id (x := x) (by omega) p.length hl (Nat.le_refl _)]
  congr 1
  omega
theorem lightP_row {ps : List Pth} {p : List Prt} (h : isPlan ps p = true) {t id : Int} (ht : inB t 0 1000000 = true) (hid : (findK id ps).isSome = true) : lightP ps p t id = (rowP ps p id).getD (t % sumTo ps p p.length).toNat 0 := by
  have hc := sumTo_bound h p.length (Nat.le_refl _)
  obtain ⟨⟨h1, _⟩, _⟩ := isPlan_parts h
  have := inB_t ht
  unfold lightP rowP
  rw [h, ht, hid]
  simp only [Bool.and_self, if_true]
  rw [row_light h id (Int.emod_nonneg _ (by omega)) (Int.emod_lt_of_pos _ (by omega))]
/-- what GreenOf answers. -/
def greenP (ps : List Pth) (p : List Prt) (id : Int) : Int := ((rowP ps p id).filter fun x => decide (x = 1)).length
/-- for how many seconds there was no green, at the second k of this row gone through again and again, and the greatest till then. -/
def waitTo (r : List Int) : Nat → Int × Int
  | 0 => (0, 0)
  | k + 1 => (if r.getD (k % r.length) 0 = 1 then 0 else (waitTo r k).1 + 1, maxI (waitTo r k).2 (if r.getD (k % r.length) 0 = 1 then 0 else (waitTo r k).1 + 1))
theorem waitTo_bound (r : List Int) : ∀ k : Nat, (0 ≤ (waitTo r k).1 ∧ (waitTo r k).1 ≤ k) ∧ (0 ≤ (waitTo r k).2 ∧ (waitTo r k).2 ≤ k)
  | 0 => by simp [waitTo]
  | k + 1 => by
    obtain ⟨⟨h1, h2⟩, h3, h4⟩ := waitTo_bound r k
    unfold waitTo maxI
    simp only
    constructor
    · split <;> omega
    · split <;> split <;> omega
/-- what WaitOf answers. -/
def waitP (ps : List Pth) (p : List Prt) (id : Int) : Int := minI (waitTo (rowP ps p id) (2 * (rowP ps p id).length)).2 (rowP ps p id).length
/-- a green within the last seconds bounds the wait. -/
theorem wait_since {r : List Int} {g : Nat} (hg : r.getD (g % r.length) 0 = 1) : ∀ d : Nat, (waitTo r (g + 1 + d)).1 ≤ d
  | 0 => by
    show (if r.getD (g % r.length) 0 = 1 then (0 : Int) else _) ≤ 0
    rw [if_pos hg]
    exact Int.le_refl _
  | d + 1 => by
    have ih := wait_since hg d
    show (if r.getD ((g + 1 + d) % r.length) 0 = 1 then (0 : Int) else (waitTo r (g + 1 + d)).1 + 1) ≤ _
    split <;> omega
theorem wait_le {r : List Int} {g : Nat} (hgl : g < r.length) (hg : r.getD g 0 = 1) (k : Nat) : (waitTo r k).1 ≤ r.length := by
  by_cases h : k ≤ r.length
  · have := (waitTo_bound r k).1.2
    omega
  · obtain ⟨q, hq⟩ : ∃ q, q * r.length + g < k ∧ k ≤ q * r.length + g + r.length := by
      refine ⟨(k - 1 - g) / r.length, ?_, ?_⟩
      · have := Nat.div_mul_le_self (k - 1 - g) r.length
        omega
      · have := Nat.lt_div_mul_add (a := k - 1 - g) (b := r.length) (by omega)
        omega
    obtain ⟨d, hd⟩ : ∃ d, k = q * r.length + g + 1 + d := ⟨k - (q * r.length + g + 1), by omega⟩
    have e : (q * r.length + g) % r.length = g := by rw [Nat.mul_comm, Nat.mul_add_mod, Nat.mod_eq_of_lt hgl]
    have := wait_since (r := r) (g := q * r.length + g) (by rw [e]; exact hg) d
    rw [← hd] at this
    omega
theorem wait_most {r : List Int} {g : Nat} (hgl : g < r.length) (hg : r.getD g 0 = 1) : ∀ k : Nat, (waitTo r k).2 ≤ r.length
  | 0 => by simp [waitTo]
  | k + 1 => by
    have ih := wait_most hgl hg k
    have h2 := wait_le hgl hg (k + 1)
    have e : (waitTo r (k + 1)).2 = maxI (waitTo r k).2 (waitTo r (k + 1)).1 := rfl
    rw [e]
    unfold maxI
    split
    · exact h2
    · exact ih
/-- each path of a plan has a green second. -/
theorem row_green {ps : List Pth} {p : List Prt} (h : isPlan ps p = true) {id : Int} (hid : (findK id ps).isSome = true) : ∃ g, g < (rowTo ps p id p.length).length ∧ (rowTo ps p id p.length).getD g 0 = 1 := by
  obtain ⟨_, _, hc, hok⟩ := isPlan_parts h
  obtain ⟨k, hk⟩ := Option.isSome_iff_exists.1 hid
  obtain ⟨hkl, hke⟩ := idAt_find hk
  unfold coversP at hc
  rw [Bool.and_eq_true, Bool.and_eq_true] at hc
  have := List.all_eq_true.1 hc.1.2 k (List.mem_range.2 hkl)
  unfold inSome at this
  obtain ⟨zs, hz, hh⟩ := List.any_eq_true.1 this
  obtain ⟨q, hq, rfl⟩ := List.mem_map.1 hz
  obtain ⟨j, hj, rfl⟩ := List.getElem_of_mem hq
  have e := prAt_some (List.getElem?_eq_getElem hj)
  obtain ⟨_, _, hg, _⟩ := okPrt_parts (hok j hj)
  have hlb := leastG_bound ps (prAt p j).stage
  have hl := longAt_bound h hj
  have ha := rowTo_at h id (j := j) (x := 0) (by omega) p.length hj (Nat.le_refl _)
  have hsz := rowTo_len h id p.length (Nat.le_refl _)
  have hs : sumTo ps p (j + 1) = sumTo ps p j + longAt ps p j := rfl
  have hm := sumTo_mono h (i := j + 1) (j := p.length) (by omega) (Nat.le_refl _)
  have hb := (sumTo_bound h j (by omega)).1
  refine ⟨(sumTo ps p j).toNat + 0, by omega, ?_⟩
  rw [ha]
  unfold lightJ
  have e2 : hasI (prAt p j).stage id = true := by rw [e, ← hke]; exact hh
  rw [e2, if_pos rfl, decide_eq_true (by omega)]
  rfl
/-- what the program's longestWait answers. -/
theorem wait_plain (ps : List Pth) (p : List Prt) (id : Int) : waitP ps p id = (waitTo (rowP ps p id) (2 * (rowP ps p id).length)).2 := by
  unfold waitP
  have : (waitTo (rowP ps p id) (2 * (rowP ps p id).length)).2 ≤ (rowP ps p id).length := by
    unfold rowP
    split
    · rename_i h
      rw [Bool.and_eq_true] at h
      obtain ⟨g, h1, h2⟩ := row_green h.1 h.2
      exact wait_most h1 h2 _
    · simp [waitTo]
  unfold minI
  split
  · omega
  · rfl
/-- what IsSafeLights answers. -/
def safeAt (ps : List Pth) (ls : List Int) (i : Nat) : Bool := inB (ls.getD i 0) 0 2 && (List.range i).all fun k => !(decide (ls.getD i 0 ≠ 0) && decide (ls.getD k 0 ≠ 0) && conf (pAt ps i) (pAt ps k))
def safeP (ps : List Pth) (ls : List Int) : Bool := arePs ps && decide (ls.length = ps.length) && (List.range ps.length).all (safeAt ps ls)
theorem safe_no {ps : List Pth} {ls : List Int} {i : Nat} (hi : i < ps.length) (h : safeAt ps ls i = false) : safeP ps ls = false := by
  unfold safeP
  have : (List.range ps.length).all (safeAt ps ls) = false := by
    rw [Bool.eq_false_iff]
    intro ha
    have := List.all_eq_true.1 ha i (List.mem_range.2 hi)
    rw [h] at this
    cases this
  rw [this]
  simp
theorem safe_end {ps : List Pth} {ls : List Int} (ha : arePs ps = true) (hl : ls.length = ps.length) (h : ∀ i, i < ps.length → safeAt ps ls i = true) : safeP ps ls = true := by
  unfold safeP
  have : (List.range ps.length).all (safeAt ps ls) = true := List.all_eq_true.2 fun k hk => h k (List.mem_range.1 hk)
  rw [ha, this, decide_eq_true hl]
  rfl
/-- the set of what is shown. -/
def shownM (ls : List Int) (k : Nat) : Nat := maskF (fun j => decide (ls.getD j 0 ≠ 0)) k
theorem shownM_lt (ls : List Int) (k : Nat) : shownM ls k < 2 ^ k := maskF_lt _ _
theorem shownM_succ (ls : List Int) (k : Nat) : shownM ls (k + 1) = if ls.getD k 0 = 0 then shownM ls k else shownM ls k ||| 2 ^ k := by
  show shownM ls k ||| (if decide (ls.getD k 0 ≠ 0) then 2 ^ k else 0) = _
  by_cases h : ls.getD k 0 = 0
  · rw [if_pos h, if_neg (by simp; exact h), Nat.or_zero]
  · rw [if_neg h, if_pos (by simp; exact h)]
theorem safe_mask {ps : List Pth} {ls : List Int} (ha : arePs ps = true) (hl : ls.length = ps.length) (hin : ∀ i, i < ps.length → inB (ls.getD i 0) 0 2 = true) : safeP ps ls = true ↔ freeM ps (shownM ls ps.length) := by
  have h12 := arePs_len12 ha
  rw [free_iff (shownM_lt _ _) h12]
  have hb : ∀ j, (shownM ls ps.length).testBit j = (decide (j < ps.length) && decide (ls.getD j 0 ≠ 0)) := fun j => maskF_bit _ _ _
  unfold safeP
  rw [ha, decide_eq_true hl, Bool.true_and, Bool.true_and, List.all_eq_true]
  constructor
  · intro h a b h1 h2
    rw [hb, Bool.and_eq_true, decide_eq_true_eq, decide_eq_true_eq] at h1 h2
    rcases Nat.lt_trichotomy a b with hab | hab | hab
    · have := h b (List.mem_range.2 h2.1)
      unfold safeAt at this
      rw [Bool.and_eq_true] at this
      have := List.all_eq_true.1 this.2 a (List.mem_range.2 hab)
      rw [decide_eq_true h1.2, decide_eq_true h2.2, conf_symm] at this
      simpa using this
    · subst hab; exact conf_self _
    · have := h a (List.mem_range.2 h1.1)
      unfold safeAt at this
      rw [Bool.and_eq_true] at this
      have := List.all_eq_true.1 this.2 b (List.mem_range.2 hab)
      rw [decide_eq_true h1.2, decide_eq_true h2.2] at this
      simpa using this
  · intro h i hi
    have hi := List.mem_range.1 hi
    unfold safeAt
    rw [hin i hi, Bool.true_and, List.all_eq_true]
    intro k hk
    have hk := List.mem_range.1 hk
    by_cases e1 : ls.getD i 0 = 0
    · rw [decide_eq_false (by simpa using e1)]; rfl
    · by_cases e2 : ls.getD k 0 = 0
      · rw [decide_eq_true e1, decide_eq_false (by simpa using e2)]; rfl
      · rw [h i k (by rw [hb, decide_eq_true hi, decide_eq_true e1]; rfl) (by rw [hb, decide_eq_true (show k < ps.length by omega), decide_eq_true e2]; rfl)]
        simp
end Go.Proofs.YtmbbmffoihhdfaaDoor

/- What the phases of a plan show to a path, as Lean data. No walk. -/
namespace Go.Proofs.YtmbbmffoihhdfaaDoor
open Go.RowKit
set_option linter.unusedVariables false

/-- what a phase shows to the path with the index i. -/
def showP (f : Phs) (i : Nat) (most : Int) : List Int :=
  if f.opn.testBit i then List.replicate f.green.toNat 1 ++ (if f.nxt.testBit i then List.replicate f.clr.toNat 1 else List.replicate (minI most f.clr).toNat 2 ++ List.replicate (f.clr - minI most f.clr).toNat 0)
  else List.replicate (f.green + f.clr).toNat 0
theorem map_const {f : Nat → Int} {v : Int} (n : Nat) (h : ∀ s, s < n → f s = v) : (List.range n).map f = List.replicate n v := by
  apply List.ext_getElem
  · simp
  · intro k h1 h2
    simp only [List.getElem_map, List.getElem_range, List.getElem_replicate]
    exact h k (by simpa using h1)
theorem map_split (f : Nat → Int) (a b : Nat) : (List.range (a + b)).map f = (List.range a).map f ++ (List.range b).map fun s => f (a + s) := by
  rw [List.range_add, List.map_append, List.map_map]
  rfl
theorem has_maskL {ps : List Pth} {zs : List Int} (h : isTog ps zs = true) {i : Nat} (hi : i < ps.length) : hasI zs (idAt ps i) = (maskL ps zs).testBit i := by
  obtain ⟨ha, h1, h2, _, _⟩ := tog_maskL h
  have := has_ids ha h1 hi
  rwa [← h2] at this
theorem idP_row {ps : List Pth} (h : arePs ps = true) {i : Nat} (hi : i < ps.length) : idP ps (idAt ps i) = pAt ps i := by
  unfold idP
  rw [findK_of h hi]
  rfl
theorem show_row {ps : List Pth} {p : List Prt} (h : isPlan ps p = true) {j i : Nat} (hj : j < p.length) (hi : i < ps.length) : showP (phsAt ps p j) i (clearN (pAt ps i)) = rowJ ps p (idAt ps i) j := by
  obtain ⟨⟨hl, _⟩, ha, _, hok⟩ := isPlan_parts h
  have hnx := nextJ_lt (p := p) (j := j) (by omega)
  have t1 := (okPrt_parts (hok j hj)).2.1
  have t2 := (okPrt_parts (hok _ hnx)).2.1
  have hg := (okPrt_parts (hok j hj)).2.2
  have hlb := leastG_bound ps (prAt p j).stage
  have hc := clrAt_bound ps p j
  have hcn := clearN_bound (pAt ps i)
  have b1 := has_maskL t1 hi
  have b2 := has_maskL t2 hi
  have hlj : ∀ s : Nat, lightJ ps p j s (idAt ps i) = if (maskL ps (prAt p j).stage).testBit i then (if decide ((s : Int) < (prAt p j).green) || (maskL ps (prAt p (nextJ p j)).stage).testBit i then 1 else if (s : Int) < (prAt p j).green + clearN (pAt ps i) then 2 else 0) else 0 := fun s => by
    unfold lightJ
    rw [idP_row ha hi, b1, b2]
  unfold rowJ showP phsAt longAt
  simp only
  generalize (prAt p j).green = g at *
  generalize clrAt ps p j = c at *
  generalize clearN (pAt ps i) = m at *
  have ef : (fun (s : Nat) => lightJ ps p j s (idAt ps i)) = fun s : Nat => if (maskL ps (prAt p j).stage).testBit i then (if decide ((s : Int) < g) || (maskL ps (prAt p (nextJ p j)).stage).testBit i then 1 else if (s : Int) < g + m then 2 else 0) else 0 := funext hlj
  rw [ef]
  cases (maskL ps (prAt p j).stage).testBit i
  · rw [if_neg (by decide)]
    exact (map_const _ fun s _ => rfl).symm
  · rw [if_pos rfl, show (g + c).toNat = g.toNat + c.toNat by omega, map_split, map_const (v := 1) g.toNat (fun s hs => by
      rw [if_pos rfl, decide_eq_true (by omega)]; rfl)]
    congr 1
    cases (maskL ps (prAt p (nextJ p j)).stage).testBit i
    · rw [if_neg (by decide)]
      obtain ⟨k, hk⟩ : ∃ k : Nat, minI m c = k := ⟨(minI m c).toNat, by unfold minI; split <;> omega⟩
      have hkc : (k : Int) ≤ c ∧ (k : Int) ≤ m ∧ ((k : Int) = c ∨ (k : Int) = m) := by
        unfold minI at hk
        split at hk <;> omega
      rw [hk, show c.toNat = k + (c - k).toNat by omega, map_split]
      congr 1
      · exact (map_const _ fun s hs => by
          rw [if_pos rfl, decide_eq_false (by omega), Bool.or_self, if_neg (by decide), if_pos (by omega)]).symm
      · exact (map_const _ fun s hs => by
          rw [if_pos rfl, decide_eq_false (by omega), Bool.or_self, if_neg (by decide), if_neg (by omega)]).symm
    · rw [if_pos rfl]
      exact (map_const _ fun s hs => by rw [if_pos rfl, Bool.or_true]; rfl).symm
theorem phs_at {ps : List Pth} {p : List Prt} {k j : Nat} (h : j < k) : (phsTo ps p k)[j]? = some (phsAt ps p j) := by
  unfold phsTo
  rw [List.getElem?_map, List.getElem?_range h]
  rfl
theorem phs_cell {l : List Phs} {j : Nat} {f : Phs} (h : l[j]? = some f) (d : Nat) (hd : d < 5) : (l.flatMap Phs.cells)[j * 5 + d]? = f.cells[d]? := by
  induction l generalizing j with
  | nil => simp at h
  | cons x l ih =>
    rw [List.flatMap_cons]
    cases j with
    | zero =>
      obtain rfl : x = f := by simpa using h
      rw [List.getElem?_append_left (by show 0 * 5 + d < 5; omega), Nat.zero_mul, Nat.zero_add]
    | succ j =>
      rw [List.getElem?_append_right (by show 5 ≤ _; omega), show (j + 1) * 5 + d - x.cells.length = j * 5 + d by show (j + 1) * 5 + d - 5 = _; omega]
      exact ih (by simpa using h)
theorem showP_len {f : Phs} {i : Nat} {most : Int} (hg : 0 ≤ f.green) (hc : 0 ≤ f.clr) (hm : 0 ≤ most) : (showP f i most).length = (f.green + f.clr).toNat := by
  have hk : 0 ≤ minI most f.clr ∧ minI most f.clr ≤ f.clr := by unfold minI; split <;> omega
  unfold showP
  split
  · split
    · simp only [List.length_append, List.length_replicate]; omega
    · simp only [List.length_append, List.length_replicate]; omega
  · simp
end Go.Proofs.YtmbbmffoihhdfaaDoor

/- Rows of elements of two or three cells. No program. -/
namespace Go.Proofs.YtmbbmffoihhdfaaDoor
open Go.RowKit

theorem stored2 {w : World} {g : Nat} {x0 x1 a b : Value} {E : TypeId} (h : w.heap[g]? = some (.cells #[x0, x1] E)) : ((w.setCell ⟨g, 0, none⟩ a).setCell ⟨g, 1, none⟩ b).heap[g]? = some (.cells #[a, b] E) :=
  heap_setCell_same _ g 1 _ E b (heap_setCell_same w g 0 _ E a h)
theorem stored3 {w : World} {g : Nat} {x0 x1 x2 a b c : Value} {E : TypeId} (h : w.heap[g]? = some (.cells #[x0, x1, x2] E)) : (((w.setCell ⟨g, 0, none⟩ a).setCell ⟨g, 1, none⟩ b).setCell ⟨g, 2, none⟩ c).heap[g]? = some (.cells #[a, b, c] E) :=
  heap_setCell_same _ g 2 _ E c (heap_setCell_same _ g 1 _ E b (heap_setCell_same w g 0 _ E a h))
theorem stored4 {w : World} {g : Nat} {x0 x1 x2 x3 a b c d : Value} {E : TypeId} (h : w.heap[g]? = some (.cells #[x0, x1, x2, x3] E)) : ((((w.setCell ⟨g, 0, none⟩ a).setCell ⟨g, 1, none⟩ b).setCell ⟨g, 2, none⟩ c).setCell ⟨g, 3, none⟩ d).heap[g]? = some (.cells #[a, b, c, d] E) :=
  heap_setCell_same _ g 3 _ E d (heap_setCell_same _ g 2 _ E c (heap_setCell_same _ g 1 _ E b (heap_setCell_same w g 0 _ E a h)))
theorem unstored2 {w : World} {g k : Nat} {a b : Value} {x : Obj} (h : w.heap[k]? = some x) (hk : k ≠ g) : ((w.setCell ⟨g, 0, none⟩ a).setCell ⟨g, 1, none⟩ b).heap[k]? = some x :=
  (heap_setCell_other _ _ k b hk).trans ((heap_setCell_other w _ k a hk).trans h)
theorem unstored3 {w : World} {g k : Nat} {a b c : Value} {x : Obj} (h : w.heap[k]? = some x) (hk : k ≠ g) : (((w.setCell ⟨g, 0, none⟩ a).setCell ⟨g, 1, none⟩ b).setCell ⟨g, 2, none⟩ c).heap[k]? = some x :=
  (heap_setCell_other _ _ k c hk).trans ((heap_setCell_other _ _ k b hk).trans ((heap_setCell_other w _ k a hk).trans h))
theorem unstored4 {w : World} {g k : Nat} {a b c d : Value} {x : Obj} (h : w.heap[k]? = some x) (hk : k ≠ g) : ((((w.setCell ⟨g, 0, none⟩ a).setCell ⟨g, 1, none⟩ b).setCell ⟨g, 2, none⟩ c).setCell ⟨g, 3, none⟩ d).heap[k]? = some x :=
  (heap_setCell_other _ _ k d hk).trans ((heap_setCell_other _ _ k c hk).trans ((heap_setCell_other _ _ k b hk).trans ((heap_setCell_other w _ k a hk).trans h)))
theorem add_plusF (q : Addr) (i : Nat) (h : 0 < i) : q.add i = ⟨q.block, q.off + i, none⟩ := by unfold Addr.add; rw [if_neg (by omega)]
theorem heap_size_allocF (w : World) (o : Obj) : (w.alloc o).heap.size = w.heap.size + 1 := by simp
theorem heap_old (w : World) (o : Obj) {g : Nat} {x : Obj} (h : w.heap[g]? = some x) : (w.alloc o).heap[g]? = some x := (Below.heap_alloc _ _ _ (lt_of_block h)).trans h
theorem heap_newF (w : World) (o : Obj) {g : Nat} (h : w.heap.size = g) : (w.alloc o).heap[g]? = some o := by subst h; exact heap_alloc_new w o
theorem one_block {w wA : World} {o0 : Obj} (h : wA = w.alloc o0) : wA.heap[w.heap.size]? = some o0 ∧ wA.heap.size = w.heap.size + 1 ∧ Below w.heap.size w wA := by
  subst h
  exact ⟨heap_alloc_new w o0, heap_size_allocF _ _, (Below.refl _ _).alloc (Nat.le_refl _) _⟩
theorem two_blocks {w wA : World} {o0 o1 : Obj} (h : wA = (w.alloc o0).alloc o1) : wA.heap[w.heap.size]? = some o0 ∧ wA.heap[w.heap.size + 1]? = some o1 ∧ wA.heap.size = w.heap.size + 2 ∧ Below w.heap.size w wA := by
  subst h
  refine ⟨heap_old _ _ (heap_alloc_new w o0), heap_newF _ _ (heap_size_allocF _ _), ?_, ((Below.refl _ _).alloc (Nat.le_refl _) _).alloc ?_ _⟩
  · rw [heap_size_allocF, heap_size_allocF]
  · rw [heap_size_allocF]; omega
theorem three_blocks {w wA : World} {o0 o1 o2 : Obj} (h : wA = ((w.alloc o0).alloc o1).alloc o2) : wA.heap[w.heap.size]? = some o0 ∧ wA.heap[w.heap.size + 1]? = some o1 ∧ wA.heap[w.heap.size + 1 + 1]? = some o2 ∧ wA.heap.size = w.heap.size + 3 ∧ Below w.heap.size w wA := by
  subst h
  refine ⟨heap_old _ _ (heap_old _ _ (heap_alloc_new w o0)), heap_old _ _ (heap_newF _ _ (heap_size_allocF _ _)), heap_newF _ _ ?_, ?_, (((Below.refl _ _).alloc (Nat.le_refl _) _).alloc ?_ _).alloc ?_ _⟩
  · rw [heap_size_allocF, heap_size_allocF]
  · rw [heap_size_allocF, heap_size_allocF, heap_size_allocF]
  · rw [heap_size_allocF]; omega
  · rw [heap_size_allocF, heap_size_allocF]; omega
theorem results_cell_tmpF {fn : Func} {p q : Tmp} {ty : TypeId} (h : fn.results = #[.cell p ty, .tmp q]) (tmps : Array Value) (P : Program) (w : World) :
    (results fn tmps).run P w = ((asAddr (tmps.getD p undef)).run P w).andThen fun a w₁ => ((loadVar ty a).run P w₁).andThen fun v w₂ => .ok (.tuple #[v, tmps.getD q undef]) w₂ := by
  simp only [results, h]
  simp [Sem.run_bind, Result.andThen]
theorem set2 {pre rest : List Value} {z0 z1 a b : Value} {m : Nat} (h : pre.length = m) : (((pre ++ z0 :: z1 :: rest).set m a).set (m + 1) b) = pre ++ a :: b :: rest := by
  rw [set_at h]
  have e1 : pre ++ a :: z1 :: rest = (pre ++ [a]) ++ z1 :: rest := by simp
  rw [e1, set_at (by simp [h])]
  simp
theorem drop2 {zs : List Value} {m : Nat} (h : m + 2 ≤ zs.length) : ∃ z0 z1, zs.drop m = z0 :: z1 :: zs.drop (m + 2) :=
  ⟨zs[m], zs[m + 1], by rw [List.drop_eq_getElem_cons (by omega), List.drop_eq_getElem_cons (by omega)]⟩
theorem set3 {pre rest : List Value} {z0 z1 z2 a b c : Value} {m : Nat} (h : pre.length = m) : (((pre ++ z0 :: z1 :: z2 :: rest).set m a).set (m + 1) b).set (m + 2) c = pre ++ a :: b :: c :: rest := by
  rw [set_at h]
  have e1 : pre ++ a :: z1 :: z2 :: rest = (pre ++ [a]) ++ z1 :: z2 :: rest := by simp
  rw [e1, set_at (by simp [h])]
  have e2 : (pre ++ [a]) ++ b :: z2 :: rest = (pre ++ [a, b]) ++ z2 :: rest := by simp
  rw [e2, set_at (by simp [h])]
  simp
theorem drop3 {zs : List Value} {m : Nat} (h : m + 3 ≤ zs.length) : ∃ z0 z1 z2, zs.drop m = z0 :: z1 :: z2 :: zs.drop (m + 3) :=
  ⟨zs[m], zs[m + 1], zs[m + 2], by rw [List.drop_eq_getElem_cons (by omega), List.drop_eq_getElem_cons (by omega), List.drop_eq_getElem_cons (by omega)]⟩
theorem set5 {pre rest : List Value} {z0 z1 z2 z3 z4 a b c d e : Value} {m : Nat} (h : pre.length = m) : (((((pre ++ z0 :: z1 :: z2 :: z3 :: z4 :: rest).set m a).set (m + 1) b).set (m + 2) c).set (m + 3) d).set (m + 4) e = pre ++ a :: b :: c :: d :: e :: rest := by
  rw [set4 h]
  have e1 : pre ++ a :: b :: c :: d :: z4 :: rest = (pre ++ [a, b, c, d]) ++ z4 :: rest := by simp
  rw [e1, set_at (by simp [h])]
  simp
theorem drop5 {zs : List Value} {m : Nat} (h : m + 5 ≤ zs.length) : ∃ z0 z1 z2 z3 z4, zs.drop m = z0 :: z1 :: z2 :: z3 :: z4 :: zs.drop (m + 5) :=
  ⟨zs[m], zs[m + 1], zs[m + 2], zs[m + 3], zs[m + 4], by rw [List.drop_eq_getElem_cons (by omega), List.drop_eq_getElem_cons (by omega), List.drop_eq_getElem_cons (by omega), List.drop_eq_getElem_cons (by omega), List.drop_eq_getElem_cons (by omega)]⟩
end Go.Proofs.YtmbbmffoihhdfaaDoor

/- The program's rows of lights: show, showTo, rowOf. -/
namespace Go.Proofs.YtmbbmffoihhdfaaDoor
open Go.RowKit
set_option linter.unusedVariables false

/-- the variable at g holds a row of lights of the call's own. -/
def RowAt (w : World) (lo g : Nat) (v : Value) (zs : List Int) : Prop :=
  w.ownsRow lo 89 1 (.slice (some ⟨g, 0, none⟩) 1 1) 1 [v] ∧ w.ownsRow lo 3 1 v zs.length (zs.map (Value.int .i64))
theorem RowAt.below {w w' : World} {lo g : Nat} {v : Value} {zs : List Int} (h : RowAt w lo g v zs) (hb : Below w.heap.size w w') : RowAt w' lo g v zs := ⟨ownr_below h.1 hb, ownr_below h.2 hb⟩
theorem RowAt.cell {w : World} {lo g : Nat} {v : Value} {zs : List Int} (h : RowAt w lo g v zs) : w.cell? ⟨g, 0, none⟩ = some v := row_cell h.1 rfl
theorem RowAt.lt {w : World} {lo g : Nat} {v : Value} {zs : List Int} (h : RowAt w lo g v zs) : lo ≤ g ∧ g < w.heap.size := ownr_block h.1 _ rfl
/-- beside the variable at g and what it holds nothing has changed. -/
structure KeptR (w w' : World) (lo g : Nat) (v v' : Value) : Prop where
  below : Below lo w w'
  block : ∀ b, b < w.heap.size → b ≠ g → v.ownBlock ≠ some b → w'.heap[b]? = w.heap[b]?
  own : ∀ b, v'.ownBlock = some b → v.ownBlock = some b ∨ w.heap.size ≤ b
theorem KeptR.refl (w : World) (lo g : Nat) (v : Value) : KeptR w w lo g v v := ⟨Below.refl _ _, fun _ _ _ _ => rfl, fun _ h => .inl h⟩
theorem KeptR.trans {w w' w'' : World} {lo g : Nat} {v v' v'' : Value} (h : KeptR w w' lo g v v') (k : KeptR w' w'' lo g v' v'') : KeptR w w'' lo g v v'' := by
  have hs := h.below.size
  refine ⟨h.below.trans k.below, fun b hb hg hv => (k.block b (by omega) hg fun e => ?_).trans (h.block b hb hg hv), fun b e => ?_⟩
  · rcases h.own b e with q | q
    · exact hv q
    · omega
  · rcases k.own b e with q | q
    · exact h.own b q
    · exact .inr (by omega)
theorem KeptR.of_below {w w' : World} {lo g : Nat} {v : Value} (hb : Below w.heap.size w w') (hl : lo ≤ w.heap.size) : KeptR w w' lo g v v := ⟨hb.mono hl, fun b h _ _ => hb.block b h, fun _ h => .inl h⟩
theorem keptr_grown {w wr w4 : World} {lo g : Nat} {v u v4 : Value} {o : Obj} (h : KeptR w wr lo g v u) (hg : (wr.alloc o).grownBy w4 u.ownBlock) (ha : v4.ownBlock = u.ownBlock ∨ v4.ownBlock = some (wr.heap.size + 1)) :
    (∀ b, b < w.heap.size → v.ownBlock ≠ some b → b ≠ g → w4.heap[b]? = w.heap[b]?) ∧ ∀ b, v4.ownBlock = some b → v.ownBlock = some b ∨ w.heap.size ≤ b := by
  have hs := h.below.size
  refine ⟨fun b hb hv hne => ?_, fun b e => ?_⟩
  · have h1 := hg.block b (by simp; omega) (fun e => by
      rcases h.own b e.symm with q | q
      · exact hv q
      · omega)
    have h2 := Below.heap_alloc wr o b (by omega)
    exact h1.trans (h2.trans (h.block b hb hne hv))
  · rcases ha with q | q
    · rw [q] at e; exact h.own b e
    · rw [q] at e; injection e with e; exact .inr (by omega)
set_option maxHeartbeats 2000000 in
theorem impl_show (g lo : Nat) (v : Value) (zs : List Int) (light : Int) (secs : Nat) (w : World) (h : RowAt w lo g v zs) (hn : zs.length + secs ≤ 1000000) :
    Calls Tryd.prog 120 #[.pointer (some ⟨g, 0, none⟩), .int .i64 light, .int .i64 (secs : Nat)] w fun e w' => e = .returned (.tuple #[]) ∧ ∃ v', RowAt w' lo g v' (zs ++ List.replicate secs light) ∧ KeptR w w' lo g v v' := by
  have hlg := h.lt
  have H := Lib.hid h
  have ht : 89 ≠ 3 := by decide
  clear h
  go_enter Tryd.func120, Tryd.ntmps120
  go_wp2
  go_loopw [7] (fun i wr => ∃ (k : Nat) (u : Value), k ≤ secs ∧ i = .int .i64 k ∧ RowAt wr lo g u (zs ++ List.replicate k light) ∧ KeptR w wr lo g v u) (fun i _ => secs - (intOf i).toNat)
  case atStart => exact ⟨0, v, Nat.zero_le _, rfl, by simpa using H.out, KeptR.refl _ _ _ _⟩
  case round =>
    obtain ⟨k, u, hk, rfl, hrow, hbl⟩ := hrel
    have hsz := hbl.below.size
    by_cases hlt : k < secs
    · obtain ⟨ys, hys⟩ : ∃ ys, ys = zs ++ List.replicate k light := ⟨_, rfl⟩
      have hlen : ys.length ≤ 1000000 := by rw [hys]; simp only [List.length_append, List.length_replicate]; omega
      rw [← hys] at hrow
      have c0 := hrow.cell
      have HR := Lib.hid hrow
      have HB := Lib.hid hbl
      have hlo : lo ≤ wr.heap.size := by have := hrow.lt; omega
      have HPU : Hid (ys ++ [light] = zs ++ List.replicate (k + 1) light) := Lib.hid (by rw [hys, List.append_assoc]; congr 1; rw [List.replicate_succ']) 
      clear hrow hbl hys
      go_wp2_with (at_builtin; refine wpList_appR1 rfl _ _ 89 rfl 3 (.int .i64 0) 1 8 Tryd.underlying89 info_int1 rfl (by decide) (by decide) lo _ _ _ rfl HR.out.2 (by omega) [.int .i64 light] rfl (by simp [Value.oneCell']) _ _ wr.heap.size hlo rfl (by simp) ?_; intro v4 w4 hown4 hgrow4 hat4; have hT4 := ownr_grown (ownr_below HR.out.1 ((Below.refl wr.heap.size wr).alloc (Nat.le_refl _) _)) hgrow4 (fun q e h' => apart_types HR.out.1 HR.out.2 ht q e h'); have hB4 := ownr_push HR.out.2 (Nat.le_refl lo) (HB.out.below.alloc hlo _) (by simp; omega) hgrow4; have hK4 := keptr_grown HB.out hgrow4 hat4; obtain ⟨A4, d4, rfl⟩ := ownr_sliced hown4; obtain ⟨x4, hx4⟩ := ownr_some hT4 (j := 0) (by decide); have hf4 := World.ownsRow.frozenAt hT4 0; clear hgrow4 hat4 c0)
      have hs := World.ownsRow.stored hT4 0 (.slice A4 (ys.length + 1) d4)
      have hR5 : Hid (RowAt (w4.setCell ⟨g, 0, none⟩ (.slice A4 (ys.length + 1) d4)) lo g (.slice A4 (ys.length + 1) d4) (zs ++ List.replicate (k + 1) light)) := Lib.hid (by
        have h2 := ownr_grown hown4 hs.2 (fun q e h' => apart_types hT4 hown4 ht q h' e)
        refine ⟨hs.1, ?_⟩
        rw [← HPU.out, List.map_append]
        simpa using h2)
      have hB5 : Hid (KeptR w (w4.setCell ⟨g, 0, none⟩ (.slice A4 (ys.length + 1) d4)) lo g v (.slice A4 (ys.length + 1) d4)) := Lib.hid ⟨hB4.setCell (p := ⟨g, 0, none⟩) hlg.1 _, fun b hb hne hv => (heap_setCell_other _ _ _ _ hne).trans (hK4.1 b hb hv hne), hK4.2⟩
      clear hs hB4 hown4 hT4 hx4 hf4 hK4
      go_roundw
      case rel => exact ⟨k + 1, _, by omega, by go_num, hR5.out, hB5.out⟩
      case measure => simp [intOf]; omega
    · obtain rfl : k = secs := by omega
      have HR := Lib.hid hrow
      have HB := Lib.hid hbl
      clear hrow hbl
      go_wp2
      go_end0
      exact ⟨rfl, _, HR.out, HB.out⟩
theorem bit_u16 (m i : Nat) (hm : m < 4096) (hi : i < 12) : bits .and .u16 ((m : Nat) : Int) ((2 ^ i : Nat) : Int) = ((m &&& 2 ^ i : Nat) : Int) := by
  have : 2 ^ i ≤ 2 ^ 11 := Nat.pow_le_pow_right (by decide) (by omega)
  exact u16_and_nat _ _ (by omega) (by omega)
set_option maxHeartbeats 2000000 in
set_option maxRecDepth 100000 in
theorem impl_showTo (f : Phs) (g lo : Nat) (v : Value) (zs : List Int) (i : Nat) (most : Int) (w : World) (h : RowAt w lo g v zs) (ho : f.opn < 4096) (hx : f.nxt < 4096) (hi : i < 12) (hg : 0 ≤ f.green ∧ f.green ≤ 60) (hc : 0 ≤ f.clr ∧ f.clr ≤ 5) (hm : 0 ≤ most ∧ most ≤ 1000) (hn : zs.length ≤ 100000) :
    Calls Tryd.prog 102 #[.agg f.cells.toArray, .pointer (some ⟨g, 0, none⟩), .int .u16 ((2 ^ i : Nat) : Int), .int .i64 most] w fun e w' => e = .returned (.tuple #[]) ∧ ∃ v', RowAt w' lo g v' (zs ++ showP f i most) ∧ KeptR w w' lo g v v' := by
  obtain ⟨o, x, gr, cl, le⟩ := f
  simp only at *
  have hlg := h.lt
  have ho2 := bit_u16 o i ho hi
  have hx2 := bit_u16 x i hx hi
  have hbA := (Below.refl w.heap.size w).alloc (Nat.le_refl _) (.cells #[.int .u16 (o : Nat), .int .u16 (x : Nat), .int .i64 gr, .int .i64 cl, .int .i64 le] 87)
  have HBA := Lib.hid (KeptR.of_below (g := g) (v := v) hbA (show lo ≤ w.heap.size by omega))
  have HR := Lib.hid (h.below hbA)
  have HSP : Hid (showP ⟨o, x, gr, cl, le⟩ i most = if o.testBit i then List.replicate gr.toNat 1 ++ (if x.testBit i then List.replicate cl.toNat 1 else List.replicate (minI most cl).toNat 2 ++ List.replicate (cl - minI most cl).toNat 0) else List.replicate (gr + cl).toNat 0) := Lib.hid rfl
  have hkm : 0 ≤ minI most cl ∧ minI most cl ≤ cl := by unfold minI; split <;> omega
  have e8 : IntKind.i64.wrap (gr + cl) = gr + cl := by rw [IntKind.wrap_i64]; omega
  have e9 : IntKind.i64.wrap (cl - minI most cl) = cl - minI most cl := by rw [IntKind.wrap_i64]; omega
  have n1 : gr = (gr.toNat : Int) := by omega
  have n2 : cl = (cl.toNat : Int) := by omega
  have n3 : gr + cl = ((gr + cl).toNat : Int) := by omega
  have n4 : minI most cl = ((minI most cl).toNat : Int) := by omega
  have n5 : cl - minI most cl = ((cl - minI most cl).toNat : Int) := by omega
  have hz1 := and_pow0 o i
  have hz2 := and_pow0 x i
  obtain ⟨wA, hwA⟩ : ∃ wA, wA = w.alloc (.cells #[.int .u16 (o : Nat), .int .u16 (x : Nat), .int .i64 gr, .int .i64 cl, .int .i64 le] 87) := ⟨_, rfl⟩
  obtain ⟨hk0, hsz, hbw⟩ := one_block hwA
  rw [← hwA] at HBA HR
  have hvb : ∀ b, v.ownBlock = some b → b < w.heap.size := fun b e => (ownr_block h.2 b e).2
  have hcells : ∀ W v', KeptR wA W lo g v v' → W.heap[w.heap.size]? = some (.cells #[.int .u16 (o : Nat), .int .u16 (x : Nat), .int .i64 gr, .int .i64 cl, .int .i64 le] 87) := fun W v' hk => (hk.block w.heap.size (by omega) (by omega) (fun e => by have := hvb _ e; omega)).trans hk0
  have HCE := Lib.hid hcells
  have HVB := Lib.hid hvb
  have HK0 := Lib.hid hk0
  have HB1 := Lib.hid hbA
  clear h hbA ho hx hcells hk0 hvb hbw
  have HN1 := Lib.hid n1
  have HN2 := Lib.hid n2
  have HN3 := Lib.hid n3
  have HN4 := Lib.hid n4
  have HN5 := Lib.hid n5
  clear n1 n2 n3 n4 n5
  have c0 : wA.cell? ⟨w.heap.size, 0, none⟩ = some (.int .u16 (o : Nat)) := (cell_of_row _ _ 0 _ _ _ HK0.out).trans rfl
  have c2 : wA.cell? ⟨w.heap.size, 2, none⟩ = some (.int .i64 gr) := (cell_of_row _ _ 2 _ _ _ HK0.out).trans rfl
  have c3 : wA.cell? ⟨w.heap.size, 3, none⟩ = some (.int .i64 cl) := (cell_of_row _ _ 3 _ _ _ HK0.out).trans rfl
  show Calls _ _ #[.agg #[.int .u16 (o : Nat), .int .u16 (x : Nat), .int .i64 gr, .int .i64 cl, .int .i64 le], _, _, _] _ _
  obtain ⟨pw, hpw⟩ : ∃ pw, pw = 2 ^ i := ⟨_, rfl⟩
  rw [← hpw] at ho2 hx2 hz1 hz2 ⊢
  clear hpw
  cases hbo : o.testBit i
  · have e0 : (((o &&& pw : Nat) : Int) == 0) = true := by rw [hz1.2 hbo]; rfl
    have H1 := impl_show g lo v zs 0 (gr + cl).toNat wA HR.out (by omega)
    rw [← HN3.out] at H1
    have HC := Lib.hid H1
    have HE : Hid (showP ⟨o, x, gr, cl, le⟩ i most = List.replicate (gr + cl).toNat 0) := Lib.hid (by rw [HSP.out, hbo]; rfl)
    clear hbo H1 hz1 hz2
    go_enter Tryd.func102, Tryd.ntmps102
    go_wp2_with fail
    rw [← hwA]
    clear hwA
    refine HC.out.mono ?_
    rintro e w1 ⟨rfl, v1, hr1, hk1⟩
    have HR1 := Lib.hid hr1
    have HK1 := Lib.hid (HBA.out.trans hk1)
    clear hr1 hk1 c0 c2 c3
    go_wp2
    exact bodyPost_ret (results_none rfl _ _ _) rfl ⟨rfl, _, by rw [HE.out]; exact HR1.out, HK1.out⟩
  · have e0 : (((o &&& pw : Nat) : Int) == 0) = false := by
      have : ¬ (o &&& pw) = 0 := fun e => by rw [hz1.1 e] at hbo; cases hbo
      simpa using this
    have H1 := impl_show g lo v zs 1 gr.toNat wA HR.out (by omega)
    rw [← HN1.out] at H1
    have HC := Lib.hid H1
    have hl1 : (zs ++ List.replicate gr.toNat 1).length = zs.length + gr.toNat := by simp
    cases hbx : x.testBit i
    · have ex : (((x &&& pw : Nat) : Int) != 0) = false := by rw [hz2.2 hbx]; rfl
      have HE : Hid (showP ⟨o, x, gr, cl, le⟩ i most = List.replicate gr.toNat 1 ++ (List.replicate (minI most cl).toNat 2 ++ List.replicate (cl - minI most cl).toNat 0)) := Lib.hid (by rw [HSP.out, hbo, hbx]; rfl)
      clear hbo hbx H1 hz1 hz2
      go_enter Tryd.func102, Tryd.ntmps102
      go_wp2_with fail
      rw [← hwA]
      clear hwA
      refine HC.out.mono ?_
      rintro e w1 ⟨rfl, v1, hr1, hk1⟩
      have hk := HCE.out w1 _ hk1
      have HR1 := Lib.hid hr1
      have HK1 := Lib.hid hk1
      have hsz1 := hk1.below.size
      clear hr1 hk1 c0 c2 c3
      have d1 : w1.cell? ⟨w.heap.size, 1, none⟩ = some (.int .u16 (x : Nat)) := (cell_of_row _ _ 1 _ _ _ hk).trans rfl
      have d3 : w1.cell? ⟨w.heap.size, 3, none⟩ = some (.int .i64 cl) := (cell_of_row _ _ 3 _ _ _ hk).trans rfl
      go_wp2_with fail
      refine (impl_Min most cl w1).mono ?_
      generalize hown : minI most cl = own at *
      rintro e w2 ⟨rfl, hb2⟩
      have hlo1 : lo ≤ w1.heap.size := by have := HR1.out.lt; omega
      have H2 := impl_show g lo v1 _ 2 own.toNat w2 (HR1.out.below hb2) (by rw [hl1]; omega)
      rw [← HN4.out] at H2
      have HC2 := Lib.hid H2
      have hvb : ∀ b, v1.ownBlock = some b → b < w1.heap.size ∧ b ≠ w.heap.size := fun b e => by
        have h1 := (ownr_block HR1.out.2 b e).2
        refine ⟨h1, fun e2 => ?_⟩
        subst e2
        rcases HK1.out.own _ e with q | q
        · have := HVB.out _ q; omega
        · omega
      have HCE2 : Hid (∀ W v', KeptR w2 W lo g v1 v' → W.heap[w.heap.size]? = some (.cells #[.int .u16 (o : Nat), .int .u16 (x : Nat), .int .i64 gr, .int .i64 cl, .int .i64 le] 87)) := Lib.hid (fun W v' hkk => (hkk.block w.heap.size (by have := hb2.size; omega) (by omega) (fun e => (hvb _ e).2 rfl)).trans ((hb2.block w.heap.size (by omega)).trans hk))
      have HKA := Lib.hid ((HBA.out.trans HK1.out).trans (KeptR.of_below hb2 hlo1))
      clear H2 hb2 hvb hk d1 d3
      go_wp2_with fail
      refine HC2.out.mono ?_
      rintro e w3 ⟨rfl, v3, hr3, hk3⟩
      have hk := HCE2.out w3 _ hk3
      have HKB := Lib.hid (HKA.out.trans hk3)
      have d3 : w3.cell? ⟨w.heap.size, 3, none⟩ = some (.int .i64 cl) := (cell_of_row _ _ 3 _ _ _ hk).trans rfl
      have H3 := impl_show g lo v3 _ 0 (cl - own).toNat w3 hr3 (by simp only [List.length_append, List.length_replicate] at hl1 ⊢; omega)
      rw [← HN5.out] at H3
      have HC3 := Lib.hid H3
      clear H3 hk hr3 hk3
      go_wp2_with fail
      refine HC3.out.mono ?_
      rintro e w4 ⟨rfl, v4, hr4, hk4⟩
      have HKC := Lib.hid (HKB.out.trans hk4)
      rw [List.append_assoc, List.append_assoc, ← HE.out] at hr4
      have HR4 := Lib.hid hr4
      clear hr4 hk4 d3
      go_wp2
      go_end0
      exact ⟨rfl, _, HR4.out, HKC.out⟩
    · have ex : (((x &&& pw : Nat) : Int) != 0) = true := by
        have : ¬ (x &&& pw) = 0 := fun e => by rw [hz2.1 e] at hbx; cases hbx
        simpa using this
      have HE : Hid (showP ⟨o, x, gr, cl, le⟩ i most = List.replicate gr.toNat 1 ++ List.replicate cl.toNat 1) := Lib.hid (by rw [HSP.out, hbo, hbx]; rfl)
      clear hbo hbx H1 hz1 hz2
      go_enter Tryd.func102, Tryd.ntmps102
      go_wp2_with fail
      rw [← hwA]
      clear hwA
      refine HC.out.mono ?_
      rintro e w1 ⟨rfl, v1, hr1, hk1⟩
      have hk := HCE.out w1 _ hk1
      have HK1 := Lib.hid (HBA.out.trans hk1)
      have H2 := impl_show g lo v1 _ 1 cl.toNat w1 hr1 (by rw [hl1]; omega)
      rw [← HN2.out] at H2
      have HC2 := Lib.hid H2
      clear hr1 hk1 c0 c2 c3 H2
      have d1 : w1.cell? ⟨w.heap.size, 1, none⟩ = some (.int .u16 (x : Nat)) := (cell_of_row _ _ 1 _ _ _ hk).trans rfl
      have d3 : w1.cell? ⟨w.heap.size, 3, none⟩ = some (.int .i64 cl) := (cell_of_row _ _ 3 _ _ _ hk).trans rfl
      clear hk
      go_wp2_with fail
      refine HC2.out.mono ?_
      rintro e w2 ⟨rfl, v2, hr2, hk2⟩
      have HK2 := Lib.hid (HK1.out.trans hk2)
      rw [List.append_assoc, ← HE.out] at hr2
      have HR2 := Lib.hid hr2
      clear hr2 hk2 d1 d3
      go_wp2
      exact bodyPost_ret (results_none rfl _ _ _) rfl ⟨rfl, _, HR2.out, HK2.out⟩
theorem okPhs {ps : List Pth} {p : List Prt} (h : isPlan ps p = true) {j : Nat} (hj : j < p.length) : (phsAt ps p j).opn < 4096 ∧ (phsAt ps p j).nxt < 4096 ∧ (0 ≤ (phsAt ps p j).green ∧ (phsAt ps p j).green ≤ 60) ∧ (0 ≤ (phsAt ps p j).clr ∧ (phsAt ps p j).clr ≤ 5) := by
  obtain ⟨⟨_, _⟩, ha, _, hok⟩ := isPlan_parts h
  have h12 := arePs_len12 ha
  have hg := (okPrt_parts (hok j hj)).2.2
  have hlb := leastG_bound ps (prAt p j).stage
  have hc := clrAt_bound ps p j
  exact ⟨maskL_lt _ _ h12, maskL_lt _ _ h12, by show 0 ≤ (prAt p j).green ∧ (prAt p j).green ≤ 60; omega, hc⟩
theorem PhsIn.cells {w : World} {lo : Nat} {ps : List Pth} {p : List Prt} {n2 : Nat} {g : Nat} {q1 : Nat} {a2 : Option Addr} {q2 : Nat} (h : PhsIn w lo ps p n2 (some ⟨g, 0, none⟩) q1 a2 q2) {k : Nat} (hk : k < n2) (d : Nat) (hd : d < 5) : w.cell? ⟨g, k * 5 + d, none⟩ = (phsAt ps p k).cells[d]? := by
  rw [World.ownsRow.cellAt h.1 (k * 5 + d) (by omega)]
  exact phs_cell (phs_at hk) d hd
theorem PhsIn.some {w : World} {lo : Nat} {ps : List Pth} {p : List Prt} {n2 : Nat} {a1 : Option Addr} {q1 : Nat} {a2 : Option Addr} {q2 : Nat} (h : PhsIn w lo ps p n2 a1 q1 a2 q2) (h0 : 0 < n2) : ∃ g, a1 = some ⟨g, 0, none⟩ ∧ lo ≤ g ∧ g < w.heap.size := by
  obtain ⟨g, rfl⟩ : ∃ g, a1 = Option.some ⟨g, 0, none⟩ := by
    rcases h.1.2 with ⟨q, _⟩ | ⟨g, cap, cur, hv, _⟩
    · injection q; omega
    · injection hv with h1 h2 h3; exact ⟨_, h1⟩
  exact ⟨g, rfl, ownr_block h.1 _ rfl⟩
set_option maxHeartbeats 8000000 in
set_option maxRecDepth 100000 in
theorem impl_rowOf {w : World} {A : Option Addr} {n c B : Nat} {ps : List Pth} {A2 : Option Addr} {n2 c2 B2 : Nat} {p : List Prt} (I : PlnIn w A n c B ps A2 n2 c2 B2 p) (hp : isPlan ps p = true) {lo0 : Nat} {a1 : Option Addr} {q1 : Nat} {a2 : Option Addr} {q2 : Nat} (hP : PhsIn w lo0 ps p n2 a1 q1 a2 q2) (i : Nat) (hi : i < n) :
    Calls Tryd.prog 76 #[.agg (t16 A n c (rowSt ps n 0) (.slice a1 n2 q1) (.slice a2 n2 q2) (sumTo ps p n2)), .int .i64 (i : Nat)] w fun e w' => ∃ v, e = .returned v ∧ w'.ownsRow w.heap.size 3 1 v (rowTo ps p (idAt ps i) n2).length ((rowTo ps p (idAt ps i) n2).map (Value.int .i64)) ∧ Below w.heap.size w w' := by
  have hl := I.len
  have hlp := I.lenp
  obtain ⟨⟨h1, h6⟩, ha, _, _⟩ := isPlan_parts hp
  have h12 := arePs_len12 ha
  obtain ⟨g1, rfl, hg1⟩ := hP.some (by omega)
  have hsb := sumTo_bound hp n2 (by omega)
  have hC : sumTo ps p n2 = ((sumTo ps p n2).toNat : Int) := by omega
  have HC := Lib.hid hC
  have HP := Lib.hid hp
  have HPH := Lib.hid hP
  have HI := Lib.hid I
  obtain ⟨ad, pp, rfl, hab, hpp, hq⟩ := I.h.at hi
  have hab2 : (ad.add (i * 4)).block < w.heap.size := Nat.lt_of_lt_of_le hab I.hB
  have hpa := pAt_some hpp
  obtain ⟨pid, pkd, pfr, pto⟩ := pp
  have HQ := Lib.hid hq
  have HPA := Lib.hid hpa
  have HTC : Hid (∀ W, Below w.heap.size w W → Clrs W) := Lib.hid (fun W hW => I.ht.below hW (Nat.le_refl _))
  obtain ⟨pw, hpw⟩ : ∃ pw, pw = 2 ^ i := ⟨_, rfl⟩
  have HPW := Lib.hid hpw
  have hmb := fun W => impl_maskBit i W (by omega)
  rw [← hpw] at hmb
  have HMB := Lib.hid hmb
  have HRL := Lib.hid (fun k (hk : k ≤ n2) => rowTo_len hp (idAt ps i) k (by omega))
  have HSB := Lib.hid (fun k (hk : k ≤ n2) => sumTo_bound hp k (by omega))
  clear hq hpa hpw hmb hab
  generalize hL : sumTo ps p n2 = L at *
  clear hp hP I hC
  unfold t16
  generalize hf : rowSt ps n 0 = f at *
  clear hf
  obtain ⟨wA, hwA⟩ : ∃ wA, wA = w.alloc (.cells #[.slice (some ad) n c, .int .u16 (f 0 : Nat), .int .u16 (f 1 : Nat), .int .u16 (f 2 : Nat), .int .u16 (f 3 : Nat), .int .u16 (f 4 : Nat), .int .u16 (f 5 : Nat), .int .u16 (f 6 : Nat), .int .u16 (f 7 : Nat), .int .u16 (f 8 : Nat), .int .u16 (f 9 : Nat), .int .u16 (f 10 : Nat), .int .u16 (f 11 : Nat), .slice (some ⟨g1, 0, none⟩) n2 q1, .slice a2 n2 q2, .int .i64 L] 78) := ⟨_, rfl⟩
  obtain ⟨hk0, hsz, hbw⟩ := one_block hwA
  have hszl : w.heap.size < wA.heap.size := by omega
  have HK0 := Lib.hid hk0
  have HBW := Lib.hid hbw
  have HWA := Lib.hid hwA
  have HTC2 : Hid (∀ W, Below wA.heap.size wA W → Clrs W) := Lib.hid (fun W hW => HTC.out W (hbw.trans (hW.mono (by omega))))
  clear hk0 hbw hwA hsz
  go_enter Tryd.func76, Tryd.ntmps76
  go_wp2_with ((with_reducible show wpList _ _ _ _ _ _); rw [← HWA.out]; refine wpList_mk0 rfl _ _ _ rfl .i64 3 8 Tryd.underlying89 info_int1 (by decide) L L.toNat rfl rfl HC.out (by omega) ?_; intro w1 hown hgrow; have hs1 := hgrow.size; have hb1 := below_grown hgrow; have hk1 := (hb1.block w.heap.size (by omega)).trans HK0.out; have c13 := fun o => (cell_of_row _ _ 13 _ _ _ (heap_old w1 o hk1)).trans rfl)
  obtain ⟨v0, hv0⟩ : ∃ v0, v0 = Value.slice (some ⟨wA.heap.size, 0, none⟩) 0 L.toNat := ⟨_, rfl⟩
  have hR2 : RowAt (w1.alloc (.cells #[.slice (some ⟨wA.heap.size, 0, none⟩) 0 L.toNat] 89)) wA.heap.size w1.heap.size (.slice (some ⟨wA.heap.size, 0, none⟩) 0 L.toNat) [] := by
    refine ⟨World.ownsRow_lit (base := wA.heap.size) (e := 89) (size := 1) w1 #[.slice (some ⟨wA.heap.size, 0, none⟩) 0 L.toNat] 1 hs1 (by decide) rfl, ?_⟩
    have h2 := ownr_below hown ((Below.refl _ _).alloc (Nat.le_refl _) (.cells #[.slice (some ⟨wA.heap.size, 0, none⟩) 0 L.toNat] 89))
    exact h2
  have hB2 := Lib.hid (hb1.alloc hs1 (.cells #[.slice (some ⟨wA.heap.size, 0, none⟩) 0 L.toNat] 89))
  have HR2 := Lib.hid hR2
  clear hown hgrow hk1 c13 hR2 hv0 hb1
  go_loopw [16] (fun i' wr => ∃ (k : Nat) (u : Value), k ≤ n2 ∧ i' = .int .i64 k ∧ RowAt wr wA.heap.size w1.heap.size u (rowTo ps p (idAt ps i) k) ∧ Below wA.heap.size wA wr) (fun i' _ => n2 - (intOf i').toNat)
  case atStart => exact ⟨0, _, Nat.zero_le _, rfl, HR2.out, hB2.out⟩
  case round =>
    clear HR2 hB2
    obtain ⟨k, u, hk, rfl, hrow, hbl⟩ := hrel
    have hsz2 := hbl.size
    have HR := Lib.hid hrow
    have HBL := Lib.hid hbl
    have hglt := hrow.lt
    clear hrow hbl
    by_cases hlt : k < n2
    · have HBW2 := Lib.hid (HBW.out.trans (HBL.out.mono (by omega)))
      have hph := HPH.out.below HBW2.out
      obtain ⟨q1, q2, q3, q4⟩ := okPhs HP.out (j := k) (by omega)
      have hsr := show_row HP.out (j := k) (i := i) (by omega) (by omega)
      rw [HPA.out] at hsr
      have HLEN : Hid ((rowTo ps p (idAt ps i) k).length ≤ 100000) := Lib.hid (by have := HRL.out k hk; have := HSB.out k hk; omega)
      have HSR := Lib.hid hsr
      have hce := fun d hd => hph.cells hlt d hd
      generalize hphs : phsAt ps p k = ph at *
      obtain ⟨o, x, gr, cl, le⟩ := ph
      simp only at q1 q2 q3 q4
      have e0 : wr.cell? ⟨g1, k * 5, none⟩ = some (.int .u16 (o : Nat)) := hce 0 (by decide)
      have e1 : wr.cell? ⟨g1, k * 5 + 1, none⟩ = some (.int .u16 (x : Nat)) := hce 1 (by decide)
      have e2 : wr.cell? ⟨g1, k * 5 + 2, none⟩ = some (.int .i64 gr) := hce 2 (by decide)
      have e3 : wr.cell? ⟨g1, k * 5 + 3, none⟩ = some (.int .i64 cl) := hce 3 (by decide)
      have e4 : wr.cell? ⟨g1, k * 5 + 4, none⟩ = some (.int .i64 le) := hce 4 (by decide)
      clear hce hph hphs hsr
      go_wp2
      obtain ⟨w3, hw3⟩ : ∃ w3, w3 = wr.alloc (.cells #[.int .u16 (o : Nat), .int .u16 (x : Nat), .int .i64 gr, .int .i64 cl, .int .i64 le] 87) := ⟨_, rfl⟩
      obtain ⟨hp3, hs3, hb3⟩ := one_block hw3
      rw [← hw3]
      clear hw3 e0 e1 e2 e3 e4
      have z0 : wA.cell? ⟨w.heap.size, 0, none⟩ = some (.slice (some ad) n c) := (cell_of_row _ _ 0 _ _ _ HK0.out).trans rfl
      have hW3 := HBL.out.trans (hb3.mono hsz2)
      have hub : ∀ b, u.ownBlock = some b → b < wr.heap.size := fun b e => (ownr_block HR.out.2 b e).2
      have HUB := Lib.hid hub
      have HSD : Hid (Below wA.heap.size wA w3.drew ∧ w3.drew.heap[wr.heap.size]? = some (.cells #[.int .u16 (o : Nat), .int .u16 (x : Nat), .int .i64 gr, .int .i64 cl, .int .i64 le] 87)) := Lib.hid ⟨below_drewD hW3, hp3⟩
      have HB3 := Lib.hid (below_drewD hb3)
      have hs3' : wr.heap.size < w3.drew.heap.size := by show _ < w3.heap.size; omega
      clear hub hW3 hb3 hp3 hs3
      have i1 : (0 : Int) ≤ (i : Int) := by omega
      have i2 : (i : Int) < (n : Int) := by omega
      refine wp_region_held_drew (S := fun W => Below wA.heap.size wA W ∧ W.heap[wr.heap.size]? = some (.cells #[.int .u16 (o : Nat), .int .u16 (x : Nat), .int .i64 gr, .int .i64 cl, .int .i64 le] 87)) (by kernel_rfl) HSD.out (fun hH => ?_)
      refine wpAnyH_take (i := 0) (v := .agg #[.int .u16 (o : Nat), .int .u16 (x : Nat), .int .i64 gr, .int .i64 cl, .int .i64 le]) rfl (by kernel_rfl) (by kernel_rfl) (by kernel_rfl) (fun _ _ _ h => h) (Or.inl ⟨by rfl, by intro W hSw; have y0 : W.cell? ⟨wr.heap.size, 0, none⟩ = some (.int .u16 (o : Nat)) := (cell_of_row _ _ 0 _ _ _ hSw.2).trans rfl; have y1 : W.cell? ⟨wr.heap.size, 1, none⟩ = some (.int .u16 (x : Nat)) := (cell_of_row _ _ 1 _ _ _ hSw.2).trans rfl; have y2 : W.cell? ⟨wr.heap.size, 2, none⟩ = some (.int .i64 gr) := (cell_of_row _ _ 2 _ _ _ hSw.2).trans rfl; have y3 : W.cell? ⟨wr.heap.size, 3, none⟩ = some (.int .i64 cl) := (cell_of_row _ _ 3 _ _ _ hSw.2).trans rfl; have y4 : W.cell? ⟨wr.heap.size, 4, none⟩ = some (.int .i64 le) := (cell_of_row _ _ 4 _ _ _ hSw.2).trans rfl; clear hSw; go_simp⟩) hH ?_
      try simp only [Act.put, List.setIfInBounds_toArray, List.set_cons_zero, List.set_cons_succ]
      refine wpAnyH_take (i := 1) (v := .int .i64 (i : Nat)) rfl (by kernel_rfl) (by kernel_rfl) (by kernel_rfl) (fun _ _ _ h => h) (Or.inl ⟨by rfl, by intro W hSw; go_simp⟩) hH ?_
      try simp only [Act.put, List.setIfInBounds_toArray, List.set_cons_zero, List.set_cons_succ]
      refine wpAnyH_take (i := 3) (v := .pointer (some ⟨w.heap.size, 0, none⟩)) rfl (by kernel_rfl) (by kernel_rfl) (by kernel_rfl) (fun _ _ _ h => h) (Or.inl ⟨by rfl, by intro W hSw; go_simp⟩) hH ?_
      try simp only [Act.put, List.setIfInBounds_toArray, List.set_cons_zero, List.set_cons_succ]
      refine wpAnyH_take (i := 4) (v := .pointer (some ⟨w.heap.size, 0, none⟩)) rfl (by kernel_rfl) (by kernel_rfl) (by kernel_rfl) (fun _ _ _ h => h) (Or.inl ⟨by rfl, by intro W hSw; go_simp⟩) hH ?_
      try simp only [Act.put, List.setIfInBounds_toArray, List.set_cons_zero, List.set_cons_succ]
      refine wpAnyH_take (i := 5) (v := .slice (some ad) n c) rfl (by kernel_rfl) (by kernel_rfl) (by kernel_rfl) (fun _ _ _ h => h) (Or.inl ⟨by rfl, by intro W hSw; have y0 : W.cell? ⟨w.heap.size, 0, none⟩ = some (.slice (some ad) n c) := (hSw.1.cell (p := ⟨w.heap.size, 0, none⟩) hszl).trans z0; clear hSw; go_simp⟩) hH ?_
      try simp only [Act.put, List.setIfInBounds_toArray, List.set_cons_zero, List.set_cons_succ]
      refine wpAnyH_take (i := 6) (v := .int .i64 (i : Nat)) rfl (by kernel_rfl) (by kernel_rfl) (by kernel_rfl) (fun _ _ _ h => h) (Or.inl ⟨by rfl, by intro W hSw; go_simp⟩) hH ?_
      try simp only [Act.put, List.setIfInBounds_toArray, List.set_cons_zero, List.set_cons_succ]
      refine wpAnyH_take (i := 7) (v := .pointer (some (ad.add (i * 4)))) rfl (by kernel_rfl) (by kernel_rfl) (by kernel_rfl) (fun _ _ _ h => h) (Or.inl ⟨by rfl, by intro W hSw; go_simp⟩) hH ?_
      try simp only [Act.put, List.setIfInBounds_toArray, List.set_cons_zero, List.set_cons_succ]
      refine wpAnyH_take (i := 8) (v := .agg #[.int .i64 pid, .int .i64 pkd, .int .i64 pfr, .int .i64 pto]) rfl (by kernel_rfl) (by kernel_rfl) (by kernel_rfl) (fun _ _ _ h => h) (Or.inl ⟨by rfl, by intro W hSw; have y := HQ.out.below (HBW.out.trans (hSw.1.mono (by omega))) hab2; have y0 := y.c0; have y1 := y.c1; have y2 := y.c2; have y3 := y.c3; simp only at y0 y1 y2 y3; clear y hSw; go_simp⟩) hH ?_
      try simp only [Act.put, List.setIfInBounds_toArray, List.set_cons_zero, List.set_cons_succ]
      refine wpAnyH_ready (rs := [2]) (by decide +kernel) (by simp) (AllReadyH.cons rfl (fun K hK => ?_) AllReadyH.nil)
      go_simp
      refine (HMB.out _).mono ?_
      rintro e w4 ⟨rfl, rfl⟩
      go_wp2_with fail
      refine hK.out _ _ hH (fun _ => ?_)
      clear hK K
      try simp only [Act.put, List.setIfInBounds_toArray, List.set_cons_zero, List.set_cons_succ]
      refine wpAnyH_ready (rs := [9]) (by decide +kernel) (by simp) (AllReadyH.cons rfl (fun K hK => ?_) AllReadyH.nil)
      go_simp
      refine (impl_ClearOf ⟨pid, pkd, pfr, pto⟩ _ (HTC2.out _ hH.1)).mono ?_
      rintro e w5 ⟨rfl, hb5⟩
      have hS5 : Below wA.heap.size wA w5 ∧ w5.heap[wr.heap.size]? = some (.cells #[.int .u16 (o : Nat), .int .u16 (x : Nat), .int .i64 gr, .int .i64 cl, .int .i64 le] 87) := ⟨hH.1.trans (hb5.mono hH.1.size), (hb5.block _ hs3').trans hH.2⟩
      have HB5 := Lib.hid (HB3.out.trans (hb5.mono HB3.out.size))
      have hs5 : wr.heap.size < w5.heap.size := Nat.lt_of_lt_of_le hs3' hb5.size
      clear hb5
      go_wp2_with fail
      refine hK.out _ _ hS5 (fun _ => ?_)
      clear hK K hH
      try simp only [Act.put, List.setIfInBounds_toArray, List.set_cons_zero, List.set_cons_succ]
      have HSH := Lib.hid (impl_showTo ⟨o, x, gr, cl, le⟩ w1.heap.size wA.heap.size u _ i (clearN ⟨pid, pkd, pfr, pto⟩) w5 (HR.out.below HB5.out) q1 q2 (by omega) q3 q4 (by have := clearN_bound ⟨pid, pkd, pfr, pto⟩; omega) HLEN.out)
      rw [← HPW.out] at HSH
      rw [show (Phs.cells ⟨o, x, gr, cl, le⟩).toArray = #[.int .u16 (o : Nat), .int .u16 (x : Nat), .int .i64 gr, .int .i64 cl, .int .i64 le] from rfl, HSR.out] at HSH
      refine wpAnyH_ready (rs := [10]) (by decide +kernel) (by simp) (AllReadyH.cons rfl (fun K hK => ?_) AllReadyH.nil)
      go_simp
      refine HSH.out.mono ?_
      rintro e w6 ⟨rfl, u6, hr6, hk6⟩
      have hS6 : Below wA.heap.size wA w6 ∧ w6.heap[wr.heap.size]? = some (.cells #[.int .u16 (o : Nat), .int .u16 (x : Nat), .int .i64 gr, .int .i64 cl, .int .i64 le] 87) := ⟨hS5.1.trans hk6.below, (hk6.block _ hs5 (by omega) (fun e => by have := HUB.out _ e; omega)).trans hS5.2⟩
      have HR6 := Lib.hid hr6
      have HB6 := Lib.hid hS6.1
      clear hk6 hr6
      go_wp2_with fail
      refine hK.out _ _ hS6 (fun _ => ?_)
      clear hK K
      try simp only [Act.put, List.setIfInBounds_toArray, List.set_cons_zero, List.set_cons_succ]
      refine wpAnyH_done (by decide +kernel) ?_ _
      clear hS5 hS6 z0
      go_wp2
      go_roundw
      case rel => exact ⟨k + 1, u6, by omega, by go_num, HR6.out, HB6.out⟩
      case measure => simp [intOf]; omega
    · obtain rfl : k = n2 := by omega
      have c0 := HR.out.cell
      obtain ⟨Au, cu, rfl⟩ := ownr_sliced HR.out.2
      have hout := Lib.hid (ownr_mono HR.out.2 (lo' := w.heap.size) (by omega))
      go_wp2
      go_ret
      exact ⟨_, rfl, hout.out, HBW.out.trans (HBL.out.mono (by omega))⟩
end Go.Proofs.YtmbbmffoihhdfaaDoor

/- The program's functions over rows of lights: rowFor, at, greens, longestWait; LightAt, GreenOf, WaitOf. -/
namespace Go.Proofs.YtmbbmffoihhdfaaDoor
open Go.RowKit
set_option linter.unusedVariables false

theorem rowP_on {ps : List Pth} {p : List Prt} {id : Int} (hp : isPlan ps p = true) {i : Nat} (hi : findK id ps = some i) : rowP ps p id = rowTo ps p id p.length := by
  unfold rowP
  rw [hp, hi]
  rfl
theorem rowP_off {ps : List Pth} {p : List Prt} {id : Int} (h : (isPlan ps p && (findK id ps).isSome) = false) : rowP ps p id = [] := by
  unfold rowP
  rw [h]
  rfl
theorem find_neg {ps : List Pth} {id : Int} (h : findK id ps = none) : findI id ps = -1 := by unfold findI; rw [h]
theorem find_pos {ps : List Pth} {id : Int} {i : Nat} (h : findK id ps = some i) : findI id ps = (i : Int) := by unfold findI; rw [h]
set_option maxHeartbeats 4000000 in
set_option maxRecDepth 100000 in
theorem impl_rowFor {w : World} {A : Option Addr} {n c B : Nat} {ps : List Pth} {A2 : Option Addr} {n2 c2 B2 : Nat} {p : List Prt} (I : PlnIn w A n c B ps A2 n2 c2 B2 p) (id : Int) :
    Calls Tryd.prog 74 #[.slice A n c, .slice A2 n2 c2, .int .i64 id] w fun e w' => ∃ v, e = .returned (.tuple #[v, .bool (isPlan ps p && (findK id ps).isSome)]) ∧ w'.ownsRow w.heap.size 3 1 v (rowP ps p id).length ((rowP ps p id).map (Value.int .i64)) ∧ Below w.heap.size w w' := by
  cases hp : isPlan ps p
  · have H := impl_timePlan_off I hp
    unfold t16 at H
    have HC := Lib.hid H
    have HR := Lib.hid (rowP_off (ps := ps) (p := p) (id := id) (by rw [hp]; rfl))
    have HF := Lib.hid (fun W (hW : Below w.heap.size w W) => impl_FindPath A n c B ps id W (I.below hW).h (I.below hW).hB I.hn4)
    clear H hp I
    go_enter Tryd.func74, Tryd.ntmps74
    go_wp2_with fail
    refine HC.out.mono ?_
    rintro e w1 ⟨rfl, hb⟩
    obtain ⟨w2, hw2⟩ : ∃ w2, w2 = w1.alloc (.cells #[.slice none 0 0, .int .u16 0, .int .u16 0, .int .u16 0, .int .u16 0, .int .u16 0, .int .u16 0, .int .u16 0, .int .u16 0, .int .u16 0, .int .u16 0, .int .u16 0, .int .u16 0, .slice none 0 0, .slice none 0 0, .int .i64 0] 78) := ⟨_, rfl⟩
    have hb2 : Below w.heap.size w w2 := by rw [hw2]; exact hb.alloc hb.size _
    have HB2 := Lib.hid hb2
    clear hb hb2
    go_wp2_with fail
    rw [← hw2]
    clear hw2
    refine (HF.out w2 HB2.out).mono ?_
    rintro e w3 ⟨rfl, hb3⟩
    have HB3 := Lib.hid (HB2.out.trans (hb3.mono HB2.out.size))
    clear hb3
    go_wp2
    go_ret2
    exact ⟨_, rfl, by rw [HR.out]; exact ownr_nil _ _ _ _, HB3.out⟩
  · have H := impl_timePlan_on I hp
    unfold t16 at H
    have HC := Lib.hid H
    have HF := Lib.hid (fun W (hW : Below w.heap.size w W) => impl_FindPath A n c B ps id W (I.below hW).h (I.below hW).hB I.hn4)
    have HP := Lib.hid hp
    have HI := Lib.hid I
    clear H hp I
    go_enter Tryd.func74, Tryd.ntmps74
    go_wp2_with fail
    refine HC.out.mono ?_
    rintro e w1 ⟨a1, q1, a2, q2, rfl, hphs, hb⟩
    obtain ⟨w2, hw2⟩ : ∃ w2, w2 = w1.alloc (.cells (t16 A n c (rowSt ps n 0) (.slice a1 n2 q1) (.slice a2 n2 q2) (sumTo ps p n2)) 78) := ⟨_, rfl⟩
    have hX2 : w2.heap[w1.heap.size]? = some (.cells (xcells A n c (rowSt ps n 0) ++ [Value.slice a1 n2 q1, .slice a2 n2 q2, .int .i64 (sumTo ps p n2)]).toArray 78) := by rw [hw2, t16_list]; exact heap_alloc_new _ _
    have hb12 : Below w1.heap.size w1 w2 := by rw [hw2]; exact (Below.refl _ _).alloc (Nat.le_refl _) _
    have hlt2 : w1.heap.size < w2.heap.size := by rw [hw2]; simp
    have HB2 := Lib.hid (hb.trans (hb12.mono hb.size))
    have HPH2 := Lib.hid (hphs.below hb12)
    have HX2 := Lib.hid hX2
    unfold t16 at hw2
    clear hb hb12 hphs hX2
    go_wp2_with fail
    rw [← hw2]
    clear hw2
    refine (HF.out w2 HB2.out).mono ?_
    rintro e w3 ⟨rfl, hb3⟩
    have HB3 := Lib.hid (HB2.out.trans (hb3.mono HB2.out.size))
    have HPH3 := Lib.hid (HPH2.out.below hb3)
    have HX3 := Lib.hid ((hb3.block _ hlt2).trans HX2.out)
    clear hb3
    cases hf : findK id ps
    · have HFK := Lib.hid hf
      have HN := Lib.hid (find_neg hf)
      have HR := Lib.hid (rowP_off (ps := ps) (p := p) (id := id) (by rw [HP.out, hf]; rfl))
      clear hf
      rw [HN.out]
      go_wp2
      go_ret2
      exact ⟨.slice none 0 0, by rw [HFK.out]; rfl, by rw [HR.out]; exact ownr_nil _ _ _ _, HB3.out⟩
    · rename_i i
      have HFK := Lib.hid hf
      have hir := findK_at hf
      have hid := idAt_find hf
      have HR := Lib.hid (rowP_on HP.out hf)
      rw [← hid.2] at HR
      have hi : i < n := by rw [← HI.out.lenp]; exact hid.1
      have hro := impl_rowOf (HI.out.below HB3.out) HP.out HPH3.out i hi
      rw [← t16_list] at hro
      have HRO := Lib.hid hro
      have hrng := range_block HX3.out
      have HNP := Lib.hid (find_pos hf)
      have HIDE := Lib.hid hid.2
      have HL2 := Lib.hid HI.out.len
      have hlen : (xcells A n c (rowSt ps n 0) ++ [Value.slice a1 n2 q1, .slice a2 n2 q2, .int .i64 (sumTo ps p n2)]).length = 16 := by rw [List.length_append, xcells_length]; rfl
      have hinf16 : (Tryd.prog.info? 78).map (·.size) = some (xcells A n c (rowSt ps n 0) ++ [Value.slice a1 n2 q1, .slice a2 n2 q2, .int .i64 (sumTo ps p n2)]).length := by rw [hlen]; exact info_timed
      have HLE := Lib.hid hlen
      clear hro hir hid hf hlen
      generalize xcells A n c (rowSt ps n 0) ++ [Value.slice a1 n2 q1, .slice a2 n2 q2, .int .i64 (sumTo ps p n2)] = cs at *
      rw [HNP.out]
      go_wp2_with ((with_reducible show wpList _ _ _ _ _ _); refine wpList_load_mid rfl 78 _ rfl w1.heap.size 0 rfl cs _ hrng Tryd.underlying78 rfl hinf16 ?_)
      refine HRO.out.mono ?_
      rintro e w4 ⟨v, rfl, hv, hb4⟩
      have HB4 := Lib.hid (HB3.out.trans (hb4.mono HB3.out.size))
      rw [← HL2.out, ← HR.out] at hv
      have HV := Lib.hid (ownr_mono hv HB3.out.size)
      clear hv hb4
      go_wp2
      go_ret2
      exact ⟨v, by rw [HFK.out]; rfl, by rw [HIDE.out] at HV; exact HV.out, HB4.out⟩
end Go.Proofs.YtmbbmffoihhdfaaDoor

/- The program's rows of lights, asked: at, greens, longestWait; LightAt, GreenOf, WaitOf. -/
namespace Go.Proofs.YtmbbmffoihhdfaaDoor
open Go.RowKit
set_option linter.unusedVariables false

/-- how many of the first k seconds are green. -/
def grnTo (r : List Int) : Nat → Int
  | 0 => 0
  | k + 1 => grnTo r k + if r.getD k 0 = 1 then 1 else 0
theorem grnTo_bound (r : List Int) : ∀ k : Nat, 0 ≤ grnTo r k ∧ grnTo r k ≤ k
  | 0 => by simp [grnTo]
  | k + 1 => by
    have ih := grnTo_bound r k
    unfold grnTo
    split <;> omega
theorem grnTo_all (r : List Int) : grnTo r r.length = ((r.filter fun x => decide (x = 1)).length : Int) := by
  have h : ∀ k, k ≤ r.length → grnTo r k = (((r.take k).filter fun x => decide (x = 1)).length : Int) := by
    intro k
    induction k with
    | zero => intro _; simp [grnTo]
    | succ k ih =>
      intro hk
      have e : r.getD k 0 = r[k] := by rw [List.getD_eq_getElem?_getD, List.getElem?_eq_getElem (by omega)]; rfl
      rw [List.take_succ_eq_append_getElem (by omega), List.filter_append, List.length_append]
      show grnTo r k + _ = _
      rw [ih (by omega), e]
      by_cases h1 : r[k] = 1
      · simp [h1]
      · simp [h1]
  have := h r.length (Nat.le_refl _)
  rwa [List.take_length] at this
theorem grn_sum {r : List Int} : ((r.filter fun x => decide (x = 1)).length : Int) = grnTo r r.length := (grnTo_all r).symm
theorem rowP_len {ps : List Pth} {p : List Prt} (id : Int) : (rowP ps p id).length ≤ 1000 := by
  unfold rowP
  split
  · rename_i h
    rw [Bool.and_eq_true] at h
    have := rowTo_len h.1 id p.length (Nat.le_refl _)
    have := sumTo_bound h.1 p.length (Nat.le_refl _)
    obtain ⟨⟨_, h6⟩, _⟩ := isPlan_parts h.1
    omega
  · simp
theorem rowP_pos {ps : List Pth} {p : List Prt} {id : Int} (h : (isPlan ps p && (findK id ps).isSome) = true) : ((rowP ps p id).length : Int) = sumTo ps p p.length ∧ 0 < (rowP ps p id).length := by
  have hl : ((rowP ps p id).length : Int) = sumTo ps p p.length := by
    unfold rowP
    rw [h]
    rw [Bool.and_eq_true] at h
    exact rowTo_len h.1 id p.length (Nat.le_refl _)
  rw [Bool.and_eq_true] at h
  have := sumTo_bound h.1 p.length (Nat.le_refl _)
  obtain ⟨⟨h6, _⟩, _⟩ := isPlan_parts h.1
  exact ⟨hl, by omega⟩
theorem impl_isSecR (n : Int) (w : World) : Calls Tryd.prog 70 #[.int .i64 n] w fun e w' => e = .returned (.bool (inB n 0 1000000)) ∧ w = w' := by
  go_enter Tryd.func70, Tryd.ntmps70
  go_wp2_with fail
  refine (impl_InRange _ _ _ _).mono ?_
  rintro e w1 ⟨rfl, rfl⟩
  go_wp2
  go_ret
  exact ⟨rfl, rfl⟩
set_option maxHeartbeats 2000000 in
theorem impl_rowAt (A : Option Addr) (n c B : Nat) (zs : List Int) (s : Nat) (w : World) (h : IntsAt .i64 w B A n zs) (h0 : 0 < n) (hn : n ≤ 1000000) (hs : s ≤ 1000000000) :
    Calls Tryd.prog 75 #[.slice A n c, .int .i64 (s : Nat)] w fun e w' => e = .returned (.int .i64 (zs.getD (s % n) 0)) ∧ w = w' := by
  obtain ⟨ad, rfl, hab, hcell⟩ := h.2 (by omega)
  have hc := hcell (s % n) (Nat.mod_lt _ h0)
  have e1 : ((s : Nat) : Int).tmod (n : Int) = ((s % n : Nat) : Int) := by rw [Int.tmod_eq_emod_of_nonneg (by omega), Int.natCast_emod]
  have z1 : ¬ n = 0 := by omega
  have z2 : ¬ (n : Int) = 0 := by omega
  have hlt : s % n < n := Nat.mod_lt _ h0
  clear hcell h
  generalize s % n = q at *
  have i1 : (0 : Int) ≤ (q : Int) := by omega
  have i2 : (q : Int) < (n : Int) := by omega
  generalize zs.getD q 0 = z at *
  go_enter Tryd.func75, Tryd.ntmps75
  go_wp2
  go_ret
  exact ⟨rfl, rfl⟩
set_option maxHeartbeats 2000000 in
theorem impl_greens (A : Option Addr) (n c B : Nat) (zs : List Int) (w : World) (h : IntsAt .i64 w B A n zs) (hn : n ≤ 1000000) :
    Calls Tryd.prog 78 #[.slice A n c] w fun e w' => e = .returned (.int .i64 (grnTo zs n)) ∧ w = w' := by
  go_enter Tryd.func78, Tryd.ntmps78
  go_wp2
  go_loop [3, 8] (fun x i => ∃ (k : Nat) (q : Int), k ≤ n ∧ i = .int .i64 k ∧ x = .int .i64 q ∧ q = grnTo zs k) (fun _ i => n - (intOf i).toNat)
  case atStart => exact ⟨0, 0, Nat.zero_le _, rfl, rfl, rfl⟩
  case round =>
    obtain ⟨k, q, hk, rfl, rfl, hq⟩ := hrel
    by_cases hlt : k < n
    · obtain ⟨ad, rfl, hab, hcell⟩ := h.2 (by omega)
      have hc := hcell k hlt
      have hqb := grnTo_bound zs k
      rw [← hq] at hqb
      by_cases h1 : zs.getD k 0 = 1
      · have HS : Hid (grnTo zs (k + 1) = q + 1) := Lib.hid (by show grnTo zs k + _ = _; rw [if_pos h1, hq])
        have e0 : (zs.getD k 0 == 1) = true := by rw [h1]; rfl
        clear hcell hq h1
        generalize zs.getD k 0 = z at *
        go_wp2
        go_round
        case rel => exact ⟨k + 1, q + 1, by omega, by go_num, rfl, HS.out.symm⟩
        case measure => simp [intOf]; omega
      · have HS : Hid (grnTo zs (k + 1) = q) := Lib.hid (by show grnTo zs k + _ = _; rw [if_neg h1, Int.add_zero, hq])
        have e0 : (zs.getD k 0 == 1) = false := by generalize zs.getD k 0 = z at h1; simpa using h1
        clear hcell hq h1
        generalize zs.getD k 0 = z at *
        go_wp2
        go_round
        case rel => exact ⟨k + 1, q, by omega, by go_num, rfl, HS.out.symm⟩
        case measure => simp [intOf]; omega
    · obtain rfl : k = n := by omega
      have HR := Lib.hid hq
      clear hq
      go_wp2
      go_ret
      exact ⟨by rw [← HR.out]; try rfl, rfl⟩
set_option maxHeartbeats 4000000 in
theorem impl_longestW (A : Option Addr) (n c B : Nat) (zs : List Int) (w : World) (h : IntsAt .i64 w B A n zs) (hB : B ≤ w.heap.size) (hn : n ≤ 1000000) :
    Calls Tryd.prog 81 #[.slice A n c] w fun e w' => e = .returned (.int .i64 (waitTo zs (2 * n)).2) ∧ Below w.heap.size w w' := by
  have hl := h.1
  have H := Lib.hid h
  have hm2 : IntKind.i64.wrap (2 * (n : Int)) = ((2 * n : Nat) : Int) := by rw [IntKind.wrap_i64]; omega
  obtain ⟨m, hm⟩ : ∃ m, m = 2 * n := ⟨_, rfl⟩
  rw [← hm] at hm2 ⊢
  have HMM := Lib.hid hm
  have hmn : m ≤ 2000000 := by omega
  clear h hm
  go_enter Tryd.func81, Tryd.ntmps81
  go_wp2
  go_loopw [3, 4, 9] (fun x y i wr => ∃ (k : Nat) (q r : Int), k ≤ m ∧ i = .int .i64 k ∧ x = .int .i64 q ∧ y = .int .i64 r ∧ q = (waitTo zs k).2 ∧ r = (waitTo zs k).1 ∧ Below w.heap.size w wr) (fun _ _ i _ => m - (intOf i).toNat)
  case atStart => exact ⟨0, 0, 0, Nat.zero_le _, rfl, rfl, rfl, rfl, rfl, Below.refl _ _⟩
  case round =>
    obtain ⟨k, q, r, hk, rfl, rfl, rfl, hq, hr, hbl⟩ := hrel
    have HBL := Lib.hid hbl
    have hqb := waitTo_bound zs k
    rw [← hq, ← hr] at hqb
    obtain ⟨⟨hr1, hr2⟩, hq1, hq2⟩ := hqb
    by_cases hlt : k < m
    · have hn0 : 0 < n := by have := HMM.out; omega
      have HA := Lib.hid (impl_rowAt A n c B zs k wr (H.out.laid hB hbl) hn0 hn (by omega))
      have e9 : IntKind.i64.wrap (r + 1) = r + 1 := by rw [IntKind.wrap_i64]; omega
      by_cases h1 : zs.getD (k % n) 0 = 1
      · have HS : Hid ((waitTo zs (k + 1)).2 = maxI q 0 ∧ (waitTo zs (k + 1)).1 = 0) := Lib.hid (by unfold waitTo; rw [hl, if_pos h1, ← hq]; exact ⟨rfl, rfl⟩)
        have e0 : (zs.getD (k % n) 0 == 1) = true := by rw [h1]; rfl
        clear hq hr h1 hbl
        generalize zs.getD (k % n) 0 = z at *
        go_wp2_with fail
        refine HA.out.mono ?_
        rintro e w1 ⟨rfl, rfl⟩
        go_wp2_with fail
        refine (impl_Max _ _ _).mono ?_
        generalize maxI q 0 = mx at *
        rintro e w1 ⟨rfl, hb1⟩
        have HB1 := Lib.hid (HBL.out.trans (hb1.mono HBL.out.size))
        clear hb1
        go_wp2
        go_roundw
        case rel => exact ⟨k + 1, mx, 0, by omega, by go_num, rfl, rfl, HS.out.1.symm, HS.out.2.symm, HB1.out⟩
        case measure => simp [intOf]; omega
      · have HS : Hid ((waitTo zs (k + 1)).2 = maxI q (r + 1) ∧ (waitTo zs (k + 1)).1 = r + 1) := Lib.hid (by unfold waitTo; rw [hl, if_neg h1, ← hq, ← hr]; exact ⟨rfl, rfl⟩)
        have e0 : (zs.getD (k % n) 0 == 1) = false := by generalize zs.getD (k % n) 0 = z at h1; simpa using h1
        clear hq hr h1 hbl
        generalize zs.getD (k % n) 0 = z at *
        go_wp2_with fail
        refine HA.out.mono ?_
        rintro e w1 ⟨rfl, rfl⟩
        go_wp2_with fail
        refine (impl_Max _ _ _).mono ?_
        generalize maxI q (r + 1) = mx at *
        rintro e w1 ⟨rfl, hb1⟩
        have HB1 := Lib.hid (HBL.out.trans (hb1.mono HBL.out.size))
        clear hb1
        go_wp2
        go_roundw
        case rel => exact ⟨k + 1, mx, r + 1, by omega, by go_num, rfl, rfl, HS.out.1.symm, HS.out.2.symm, HB1.out⟩
        case measure => simp [intOf]; omega
    · obtain rfl : k = m := by omega
      have HR := Lib.hid hq
      clear hq hr hbl
      go_wp2
      go_ret
      exact ⟨by rw [← HR.out]; try rfl, HBL.out⟩
set_option maxHeartbeats 2000000 in
theorem impl_GreenOf {w : World} {A : Option Addr} {n c B : Nat} {ps : List Pth} {A2 : Option Addr} {n2 c2 B2 : Nat} {p : List Prt} (I : PlnIn w A n c B ps A2 n2 c2 B2 p) (id : Int) :
    Calls Tryd.prog 42 #[.slice A n c, .slice A2 n2 c2, .int .i64 id] w fun e w' => e = .returned (.int .i64 (greenP ps p id)) ∧ Below w.heap.size w w' := by
  have HC := Lib.hid (impl_rowFor I id)
  have HR : Hid (greenP ps p id = grnTo (rowP ps p id) (rowP ps p id).length) := Lib.hid grn_sum
  have hlen := rowP_len (ps := ps) (p := p) id
  clear I
  generalize rowP ps p id = zs at *
  generalize (isPlan ps p && (findK id ps).isSome) = b at *
  go_enter Tryd.func42, Tryd.ntmps42
  go_wp2_with fail
  refine HC.out.mono ?_
  rintro e w1 ⟨v, rfl, hv, hb⟩
  obtain ⟨Av, cv, rfl⟩ := ownr_sliced hv
  have HI := Lib.hid (Own.ints (k := .i64) (E := 3) hv)
  have HB := Lib.hid hb
  clear hv hb
  go_wp2_with fail
  refine (impl_greens Av _ cv _ zs w1 HI.out (by omega)).mono ?_
  rintro e w2 ⟨rfl, rfl⟩
  go_wp2
  go_ret
  exact ⟨by rw [HR.out]; try rfl, HB.out⟩
set_option maxHeartbeats 2000000 in
theorem impl_WaitOf {w : World} {A : Option Addr} {n c B : Nat} {ps : List Pth} {A2 : Option Addr} {n2 c2 B2 : Nat} {p : List Prt} (I : PlnIn w A n c B ps A2 n2 c2 B2 p) (id : Int) :
    Calls Tryd.prog 44 #[.slice A n c, .slice A2 n2 c2, .int .i64 id] w fun e w' => e = .returned (.int .i64 (waitP ps p id)) ∧ Below w.heap.size w w' := by
  have HC := Lib.hid (impl_rowFor I id)
  have HR := Lib.hid (wait_plain ps p id)
  have hlen := rowP_len (ps := ps) (p := p) id
  clear I
  generalize rowP ps p id = zs at *
  generalize (isPlan ps p && (findK id ps).isSome) = b at *
  go_enter Tryd.func44, Tryd.ntmps44
  go_wp2_with fail
  refine HC.out.mono ?_
  rintro e w1 ⟨v, rfl, hv, hb⟩
  obtain ⟨Av, cv, rfl⟩ := ownr_sliced hv
  have HI := Lib.hid (Own.ints (k := .i64) (E := 3) hv)
  have HB := Lib.hid hb
  clear hv hb
  go_wp2_with fail
  refine (impl_longestW Av _ cv _ zs w1 HI.out (Nat.le_refl _) (by omega)).mono ?_
  rintro e w2 ⟨rfl, hb2⟩
  have HB2 := Lib.hid (HB.out.trans (hb2.mono HB.out.size))
  clear hb2
  go_wp2
  go_ret
  exact ⟨by rw [HR.out]; try rfl, HB2.out⟩
set_option maxHeartbeats 2000000 in
theorem impl_LightAt {w : World} {A : Option Addr} {n c B : Nat} {ps : List Pth} {A2 : Option Addr} {n2 c2 B2 : Nat} {p : List Prt} (I : PlnIn w A n c B ps A2 n2 c2 B2 p) (t id : Int) :
    Calls Tryd.prog 35 #[.slice A n c, .slice A2 n2 c2, .int .i64 t, .int .i64 id] w fun e w' => e = .returned (.int .i64 (lightP ps p t id)) ∧ Below w.heap.size w w' := by
  have HC := Lib.hid (impl_rowFor I id)
  have hlen := rowP_len (ps := ps) (p := p) id
  cases hb : (isPlan ps p && (findK id ps).isSome)
  · have HR : Hid (lightP ps p t id = 0) := Lib.hid (by
      unfold lightP
      rw [if_neg (by
        rw [Bool.and_eq_true, Bool.and_eq_true]
        rintro ⟨⟨h1, _⟩, h3⟩
        rw [h1, h3] at hb
        cases hb)])
    rw [hb] at HC
    clear I hb
    go_enter Tryd.func35, Tryd.ntmps35
    go_wp2_with fail
    refine HC.out.mono ?_
    rintro e w1 ⟨v, rfl, -, hb⟩
    have HB := Lib.hid hb
    clear hb
    go_wp2
    go_ret
    exact ⟨by rw [HR.out]; try rfl, HB.out⟩
  · obtain ⟨hrl, hr0⟩ := rowP_pos hb
    have HB0 := Lib.hid hb
    rw [hb] at HC
    clear I hb
    cases hin : inB t 0 1000000
    · have HR : Hid (lightP ps p t id = 0) := Lib.hid (by unfold lightP; rw [hin, Bool.and_false, Bool.false_and]; rfl)
      have HI := Lib.hid hin
      clear hin
      go_enter Tryd.func35, Tryd.ntmps35
      go_wp2_with fail
      refine HC.out.mono ?_
      rintro e w1 ⟨v, rfl, -, hb⟩
      have HB := Lib.hid hb
      clear hb
      go_wp2_with fail
      refine (impl_isSecR _ _).mono ?_
      rw [HI.out]
      rintro e w2 ⟨rfl, rfl⟩
      go_wp2
      go_ret
      exact ⟨by rw [HR.out]; try rfl, HB.out⟩
    · have hbb := (Bool.and_eq_true _ _).mp HB0.out
      have hlr := lightP_row hbb.1 hin hbb.2
      have ht := inB_t hin
      obtain ⟨s, rfl⟩ : ∃ s : Nat, t = (s : Int) := ⟨t.toNat, by omega⟩
      have HR : Hid (lightP ps p (s : Int) id = (rowP ps p id).getD (s % (rowP ps p id).length) 0) := Lib.hid (by rw [hlr, ← hrl]; congr 1)
      have HI := Lib.hid hin
      clear hin hlr hbb
      generalize rowP ps p id = zs at *
      go_enter Tryd.func35, Tryd.ntmps35
      go_wp2_with fail
      refine HC.out.mono ?_
      rintro e w1 ⟨v, rfl, hv, hb⟩
      obtain ⟨Av, cv, rfl⟩ := ownr_sliced hv
      have HIN := Lib.hid (Own.ints (k := .i64) (E := 3) hv)
      have HB := Lib.hid hb
      clear hv hb
      go_wp2_with fail
      refine (impl_isSecR _ _).mono ?_
      rw [HI.out]
      rintro e w2 ⟨rfl, rfl⟩
      go_wp2_with fail
      refine (impl_rowAt Av _ cv _ zs s w1 HIN.out hr0 (by omega) (by omega)).mono ?_
      rintro e w2 ⟨rfl, rfl⟩
      go_wp2
      go_ret
      exact ⟨by rw [HR.out]; try rfl, HB.out⟩
end Go.Proofs.YtmbbmffoihhdfaaDoor

/- LightsAt of the program. -/
namespace Go.Proofs.YtmbbmffoihhdfaaDoor
open Go.RowKit
set_option linter.unusedVariables false

/-- the first k of n answers, and zeros. -/
def litTo (f : Nat → Int) (n k : Nat) : List Int := (List.range n).map fun j => if j < k then f j else 0
theorem litTo_len (f : Nat → Int) (n k : Nat) : (litTo f n k).length = n := by simp [litTo]
theorem litTo_zero (f : Nat → Int) (n : Nat) : litTo f n 0 = List.replicate n 0 := by
  unfold litTo
  apply List.ext_getElem
  · simp
  · intro k h1 h2
    simp
theorem litTo_full (f : Nat → Int) (n : Nat) : litTo f n n = (List.range n).map f := by
  unfold litTo
  apply List.ext_getElem
  · simp
  · intro k h1 h2
    have hk : k < n := by simpa using h1
    simp [hk]
theorem litTo_set (f : Nat → Int) {n k : Nat} (hk : k < n) : (litTo f n k).set k (f k) = litTo f n (k + 1) := by
  unfold litTo
  apply List.ext_getElem
  · simp
  · intro j h1 h2
    rw [List.getElem_set]
    by_cases e : k = j
    · subst e
      simp
    · rw [if_neg e]
      simp only [List.getElem_map, List.getElem_range]
      by_cases h3 : j < k
      · rw [if_pos h3, if_pos (by omega)]
      · rw [if_neg h3, if_neg (by omega)]
theorem lightsP_range (ps : List Pth) (p : List Prt) (t : Int) : lightsP ps p t = (List.range ps.length).map fun j => lightP ps p t (idAt ps j) := by
  unfold lightsP
  apply List.ext_getElem
  · simp
  · intro k h1 h2
    have hk : k < ps.length := by simpa using h1
    simp only [List.getElem_map, List.getElem_range]
    congr 1
    unfold idAt pAt
    rw [List.getD_eq_getElem?_getD, List.getElem?_eq_getElem hk]
    rfl
theorem lightP_zero {ps : List Pth} {p : List Prt} {t : Int} (h : (isPlan ps p && inB t 0 1000000) = false) (id : Int) : lightP ps p t id = 0 := by
  unfold lightP
  rw [h]
  rfl
theorem lightsP_zero {ps : List Pth} {p : List Prt} {t : Int} (h : (isPlan ps p && inB t 0 1000000) = false) : lightsP ps p t = List.replicate ps.length 0 := by
  unfold lightsP
  apply List.ext_getElem
  · simp
  · intro k h1 h2
    simp only [List.getElem_map, List.getElem_replicate]
    exact lightP_zero h _
theorem row_lit {ps : List Pth} {p : List Prt} (h : isPlan ps p = true) {s i : Nat} (ht : inB (s : Int) 0 1000000 = true) (hi : i < ps.length) : (rowTo ps p (idAt ps i) p.length).getD (s % (rowTo ps p (idAt ps i) p.length).length) 0 = lightP ps p (s : Int) (idAt ps i) := by
  have ha := (isPlan_parts h).2.1
  have hf : (findK (idAt ps i) ps).isSome = true := by rw [findK_of ha hi]; rfl
  have hlr := lightP_row h ht hf
  have hrp : rowP ps p (idAt ps i) = rowTo ps p (idAt ps i) p.length := by unfold rowP; rw [h, hf]; rfl
  have hl := rowTo_len h (idAt ps i) p.length (Nat.le_refl _)
  rw [hlr, hrp, ← hl]
  congr 1
set_option maxHeartbeats 8000000 in
set_option maxRecDepth 100000 in
theorem impl_LightsAt {w : World} {A : Option Addr} {n c B : Nat} {ps : List Pth} {A2 : Option Addr} {n2 c2 B2 : Nat} {p : List Prt} (I : PlnIn w A n c B ps A2 n2 c2 B2 p) (hn6 : n ≤ 1048576) (t : Int) :
    Calls Tryd.prog 37 #[.slice A n c, .slice A2 n2 c2, .int .i64 t] w fun e w' => ∃ v, e = .returned v ∧ Own .i64 3 w' w.heap.size v (lightsP ps p t) ∧ Below w.heap.size w w' := by
  have hlp := I.lenp
  cases hp : isPlan ps p
  · have HI := Lib.hid I
    have HR : Hid (lightsP ps p t = List.replicate n 0) := Lib.hid (by rw [← hlp]; exact lightsP_zero (by rw [hp]; rfl))
    have HP := Lib.hid hp
    clear I hp
    go_enter Tryd.func37, Tryd.ntmps37
    go_wp2_with ((with_reducible show wpList _ _ _ _ _ _); refine wpList_mk rfl _ _ _ rfl .i64 3 8 Tryd.underlying45 info_int1 (by decide) (n : Int) (n : Int) n rfl rfl rfl rfl (by omega) ?_; intro w1 hown hgrow)
    have hb1 := below_grown hgrow
    have H := impl_timePlan_off (HI.out.below hb1) HP.out
    unfold t16 at H
    have HC := Lib.hid H
    have HB1 := Lib.hid hb1
    have HOWN := Lib.hid hown
    clear H hb1 hown hgrow
    refine HC.out.mono ?_
    rintro e w2 ⟨rfl, hb2⟩
    have HB2 := Lib.hid ((HB1.out.trans (hb2.mono HB1.out.size)))
    have HOWN2 := Lib.hid (HOWN.out.below hb2)
    have hsz2 := HB2.out.size
    have HO3 := Lib.hid (HOWN2.out.below ((Below.refl _ _).alloc (Nat.le_refl _) (.cells #[.slice none 0 0, .int .u16 0, .int .u16 0, .int .u16 0, .int .u16 0, .int .u16 0, .int .u16 0, .int .u16 0, .int .u16 0, .int .u16 0, .int .u16 0, .int .u16 0, .int .u16 0, .slice none 0 0, .slice none 0 0, .int .i64 0] 78)))
    clear hb2
    go_wp2
    go_ret
    exact ⟨_, rfl, by rw [HR.out]; exact HO3.out, HB2.out.alloc HB2.out.size _⟩
  · have HI := Lib.hid I
    have HP := Lib.hid hp
    clear I hp
    go_enter Tryd.func37, Tryd.ntmps37
    go_wp2_with ((with_reducible show wpList _ _ _ _ _ _); refine wpList_mk rfl _ _ _ rfl .i64 3 8 Tryd.underlying45 info_int1 (by decide) (n : Int) (n : Int) n rfl rfl rfl rfl (by omega) ?_; intro w1 hown hgrow)
    have hb1 := below_grown hgrow
    have hown0 := (ownr_block hown _ rfl).2
    have H := impl_timePlan_on (HI.out.below hb1) HP.out
    unfold t16 at H
    have HC := Lib.hid H
    have HB1 := Lib.hid hb1
    have HOWN := Lib.hid hown
    clear H hb1 hown hgrow
    refine HC.out.mono ?_
    rintro e w2 ⟨a1, q1, a2, q2, rfl, hphs, hb2⟩
    have HB2 := Lib.hid ((HB1.out.trans (hb2.mono HB1.out.size)))
    have HOWN2 := Lib.hid (HOWN.out.below hb2)
    have HPH2 := Lib.hid hphs
    clear hb2 hphs
    go_wp2_with fail
    refine (impl_isSecR _ _).mono ?_
    cases hi : inB t 0 1000000
    · rintro e w3 ⟨rfl, rfl⟩
      have HR : Hid (lightsP ps p t = List.replicate n 0) := Lib.hid (by rw [← hlp]; exact lightsP_zero (by rw [hi, Bool.and_false]))
      have HO3 := Lib.hid (HOWN2.out.below ((Below.refl _ _).alloc (Nat.le_refl _) (.cells (t16 A n c (rowSt ps n 0) (.slice a1 n2 q1) (.slice a2 n2 q2) (sumTo ps p n2)) 78)))
      clear hi
      unfold t16 at HO3
      go_wp2
      go_ret
      exact ⟨_, rfl, by rw [HR.out]; exact HO3.out, HB2.out.alloc HB2.out.size _⟩
    · rintro e w3 ⟨rfl, rfl⟩
      have hab := inB_t hi
      have HIN := Lib.hid hi
      obtain ⟨s, rfl⟩ : ∃ s : Nat, t = (s : Int) := ⟨t.toNat, by omega⟩
      obtain ⟨w3, hw3⟩ : ∃ w3, w3 = w2.alloc (.cells (t16 A n c (rowSt ps n 0) (.slice a1 n2 q1) (.slice a2 n2 q2) (sumTo ps p n2)) 78) := ⟨_, rfl⟩
      have hX3 : w3.heap[w2.heap.size]? = some (.cells (xcells A n c (rowSt ps n 0) ++ [Value.slice a1 n2 q1, .slice a2 n2 q2, .int .i64 (sumTo ps p n2)]).toArray 78) := by rw [hw3, t16_list]; exact heap_alloc_new _ _
      have hb23 : Below w2.heap.size w2 w3 := by rw [hw3]; exact (Below.refl _ _).alloc (Nat.le_refl _) _
      have HB3 := Lib.hid (HB2.out.trans (hb23.mono HB2.out.size))
      have HOWN3 := Lib.hid (HOWN2.out.below hb23)
      have HPH3 := Lib.hid (HPH2.out.below hb23)
      have HX3 := Lib.hid hX3
      have hs12 : w.heap.size < w2.heap.size := (ownr_block HOWN2.out _ rfl).2
      have hlen : (xcells A n c (rowSt ps n 0) ++ [Value.slice a1 n2 q1, .slice a2 n2 q2, .int .i64 (sumTo ps p n2)]).length = 16 := by rw [List.length_append, xcells_length]; rfl
      have hinf16 : (Tryd.prog.info? 78).map (·.size) = some (xcells A n c (rowSt ps n 0) ++ [Value.slice a1 n2 q1, .slice a2 n2 q2, .int .i64 (sumTo ps p n2)]).length := by rw [hlen]; exact info_timed
      have HRO := Lib.hid (fun W (hW : Below w.heap.size w W) hP i (hi : i < n) => impl_rowOf (HI.out.below hW) HP.out (lo0 := w1.heap.size) (a1 := a1) (q1 := q1) (a2 := a2) (q2 := q2) hP i hi)
      rw [← t16_list] at HRO
      have HLR : Hid (lightsP ps p (s : Int) = (List.range n).map fun j => lightP ps p (s : Int) (idAt ps j)) := Lib.hid (by rw [lightsP_range, hlp])
      have HRW := Lib.hid (fun i (hi : i < n) => row_lit HP.out (s := s) HIN.out (i := i) (by rw [hlp]; exact hi))
      rw [HI.out.len] at HRW
      have HRL := Lib.hid (fun i => rowTo_len HP.out (idAt ps i) n2 (by rw [HI.out.len]; exact Nat.le_refl _))
      have HSB := Lib.hid (sumTo_bound HP.out n2 (by rw [HI.out.len]; exact Nat.le_refl _))
      have HN1 : Hid (1 ≤ n2 ∧ n2 ≤ 6) := Lib.hid (by have := (isPlan_parts HP.out).1; rw [HI.out.len] at this; exact this)
      unfold t16 at hw3
      clear hi hb23 hX3 hlen
      go_wp2
      rw [← hw3]
      clear hw3
      have hw1lo : w.heap.size < w1.heap.size := hown0
      generalize xcells A n c (rowSt ps n 0) ++ [Value.slice a1 n2 q1, .slice a2 n2 q2, .int .i64 (sumTo ps p n2)] = cs at *
      go_loopw [30] (fun i wr => ∃ k : Nat, k ≤ n ∧ i = .int .i64 k ∧ Own .i64 3 wr w.heap.size (.slice (some ⟨w.heap.size, 0, none⟩) n n) (litTo (fun j => lightP ps p (s : Int) (idAt ps j)) n k) ∧ PhsIn wr w1.heap.size ps p n2 a1 q1 a2 q2 ∧ wr.heap[w2.heap.size]? = some (.cells cs.toArray 78) ∧ Below w.heap.size w wr) (fun i _ => n - (intOf i).toNat)
      case atStart => exact ⟨0, Nat.zero_le _, rfl, by rw [litTo_zero]; exact HOWN3.out, HPH3.out, HX3.out, HB3.out⟩
      case round =>
        obtain ⟨k, hk, rfl, hown, hphs, hx, hbl⟩ := hrel
        have HOW := Lib.hid hown
        have HPH := Lib.hid hphs
        have HX := Lib.hid hx
        have HBL := Lib.hid hbl
        have hsz := hbl.size
        have hxl : w2.heap.size < wr.heap.size := by
          have := (Array.getElem?_eq_some_iff.1 hx).1
          exact this
        clear hown hphs hx hbl
        by_cases hlt : k < n
        · have hrng := range_block HX.out
          have HC5 := Lib.hid (HRO.out wr HBL.out HPH.out k hlt)
          have hrl := HRL.out k
          have HWK := Lib.hid (HRW.out k hlt)
          have hsb := HSB.out
          have hn1 := HN1.out
          have HST := Lib.hid (litTo_set (fun j => lightP ps p (s : Int) (idAt ps j)) hlt)
          generalize lightP ps p (s : Int) (idAt ps k) = li at *
          generalize rowTo ps p (idAt ps k) n2 = zs at *
          have hz0 : 0 < zs.length := by omega
          have hz1 : zs.length ≤ 1000 := by omega
          clear hrl hsb
          go_wp2_with ((with_reducible show wpList _ _ _ _ _ _); refine wpList_load_mid rfl 78 _ rfl w2.heap.size 0 rfl cs _ hrng Tryd.underlying78 rfl hinf16 ?_)
          refine HC5.out.mono ?_
          rintro e w4 ⟨v, rfl, hv, hb4⟩
          obtain ⟨Av, cv, rfl⟩ := ownr_sliced hv
          have HIV := Lib.hid (Own.ints (k := .i64) (E := 3) hv)
          have hO4 := HOW.out.below hb4
          have hP4 := HPH.out.below hb4
          have hX4 := (hb4.block _ hxl).trans HX.out
          have hB4 := HBL.out.trans (hb4.mono hsz)
          have hsz4 := hb4.size
          clear hv hb4 hrng
          go_wp2_with fail
          refine (impl_rowAt Av _ cv _ zs s w4 HIV.out hz0 (by omega) (by omega)).mono ?_
          rw [HWK.out]
          rintro e w5 ⟨rfl, rfl⟩
          have hO4' : w4.ownsRow w.heap.size 3 1 (.slice (some ⟨w.heap.size, 0, none⟩) n n) n ((litTo (fun j => lightP ps p (s : Int) (idAt ps j)) n k).map (Value.int .i64)) := by
            have := hO4
            unfold Own at this
            rwa [litTo_len] at this
          have hs := World.ownsRow.stored hO4' k (.int .i64 li)
          have hf := World.ownsRow.frozenAt hO4' k
          obtain ⟨x0, hx0⟩ := ownr_some hO4' (j := k) (by omega)
          have HO5 : Hid (Own .i64 3 (w4.setCell ⟨w.heap.size, k, none⟩ (.int .i64 li)) w.heap.size (.slice (some ⟨w.heap.size, 0, none⟩) n n) (litTo (fun j => lightP ps p (s : Int) (idAt ps j)) n (k + 1))) := Lib.hid (by
            unfold Own
            rw [← HST.out, List.map_set, List.length_set, litTo_len]
            exact hs.1)
          have HP5 : Hid (PhsIn (w4.setCell ⟨w.heap.size, k, none⟩ (.int .i64 li)) w1.heap.size ps p n2 a1 q1 a2 q2) := Lib.hid ⟨ownr_grown hP4.1 hs.2 (fun q e h' => by have := (ownr_block hP4.1 q e).1; have := Option.some.inj h'; omega), ownr_grown hP4.2 hs.2 (fun q e h' => by have := (ownr_block hP4.2 q e).1; have := Option.some.inj h'; omega)⟩
          have HX5 := Lib.hid ((heap_setCell_other w4 ⟨w.heap.size, k, none⟩ w2.heap.size (.int .i64 li) (by show w2.heap.size ≠ w.heap.size; omega)).trans hX4)
          have HB5 := Lib.hid (hB4.setCell (p := ⟨w.heap.size, k, none⟩) (Nat.le_refl _) (.int .i64 li))
          have i1 : (0 : Int) ≤ (k : Int) := by omega
          have i2 : (k : Int) < (n : Int) := by omega
          clear hs hO4 hO4' hP4 hX4 hB4
          go_wp2
          go_roundw
          case rel => exact ⟨k + 1, by omega, by go_num, HO5.out, HP5.out, HX5.out, HB5.out⟩
          case measure => simp [intOf]; omega
        · obtain rfl : k = n := by omega
          go_wp2
          go_ret
          exact ⟨_, rfl, by rw [HLR.out, ← litTo_full]; exact HOW.out, HBL.out⟩
end Go.Proofs.YtmbbmffoihhdfaaDoor

/- Detectors as Lean data; rows of them, and the laws' helpers for these. -/
namespace Go.Proofs.YtmbbmffoihhdfaaDoor
open Go.RowKit
set_option linter.unusedVariables false

/-- a detector. -/
structure Det where
  path : Int
  count : Int
  age : Int
  broken : Bool
deriving DecidableEq
def Det.cells (p : Det) : List Value := [.int .i64 p.path, .int .i64 p.count, .int .i64 p.age, .bool p.broken]
def Det.val (p : Det) : Value := .agg #[.int .i64 p.path, .int .i64 p.count, .int .i64 p.age, .bool p.broken]
def Det.wf (p : Det) : Prop := (Lit.int .i64 p.path).wf = true ∧ (Lit.int .i64 p.count).wf = true ∧ (Lit.int .i64 p.age).wf = true
/-- the cells of a list of detectors. -/
def dcells (ps : List Det) : List Value := ps.flatMap Det.cells
theorem dcells_length (ps : List Det) : (dcells ps).length = ps.length * 4 := flat_length (f := Det.cells) (fun _ => rfl) ps
theorem dcells_take {ps : List Det} {k : Nat} {p : Det} (h : ps[k]? = some p) : dcells (ps.take (k + 1)) = dcells (ps.take k) ++ p.cells := by
  unfold dcells
  rw [List.take_add_one, h, List.flatMap_append]
  simp
theorem dcells_one (ps : List Det) : ∀ u ∈ dcells ps, u.oneCell' = true := by
  intro u hu
  obtain ⟨p, _, hp⟩ := List.mem_flatMap.1 hu
  simp only [Det.cells, List.mem_cons, List.not_mem_nil, or_false] at hp
  rcases hp with rfl | rfl | rfl | rfl <;> rfl
/-- one detector stored behind those before it. -/
theorem dcells_put {ps : List Det} {zs : List Value} {k : Nat} {p : Det} (h : ps[k]? = some p) (hz : k * 4 + 4 ≤ zs.length) :
    ((((dcells (ps.take k) ++ zs.drop (k * 4)).set (k * 4) (.int .i64 p.path)).set (k * 4 + 1) (.int .i64 p.count)).set (k * 4 + 2) (.int .i64 p.age)).set (k * 4 + 3) (.bool p.broken) = dcells (ps.take (k + 1)) ++ zs.drop ((k + 1) * 4) := by
  obtain ⟨z0, z1, z2, z3, hd⟩ := drop4 hz
  have hk := (List.getElem?_eq_some_iff.1 h).1
  rw [hd, set4 (by rw [dcells_length, List.length_take]; omega), dcells_take h]
  simp [Det.cells, Nat.add_mul]
/-- A slice value that holds these detectors, in a block below B. -/
def DetsAt (w : World) (B : Nat) (A : Option Addr) (n : Nat) (ps : List Det) : Prop := ps.length = n ∧ CellsAt w B A (n * 4) (dcells ps)
theorem DetsAt.keep {w w' : World} {B : Nat} {A : Option Addr} {n : Nat} {ps : List Det} (h : DetsAt w B A n ps) (hk : ∀ p : Addr, p.block < B → w'.cell? p = w.cell? p) : DetsAt w' B A n ps := ⟨h.1, h.2.keep hk⟩
theorem DetsAt.below {w w' : World} {B : Nat} {A : Option Addr} {n : Nat} {ps : List Det} (h : DetsAt w B A n ps) (hb : Below B w w') : DetsAt w' B A n ps := ⟨h.1, h.2.below hb⟩
theorem DetsAt.up {w : World} {B B' : Nat} {A : Option Addr} {n : Nat} {ps : List Det} (h : DetsAt w B A n ps) (hB : B ≤ B') : DetsAt w B' A n ps := ⟨h.1, h.2.up hB⟩
/-- a detector lies at q. -/
structure DetAt (w : World) (q : Addr) (p : Det) : Prop where
  c0 : w.cell? q = some (.int .i64 p.path)
  c1 : w.cell? ⟨q.block, q.off + 1, none⟩ = some (.int .i64 p.count)
  c2 : w.cell? ⟨q.block, q.off + 2, none⟩ = some (.int .i64 p.age)
  c3 : w.cell? ⟨q.block, q.off + 3, none⟩ = some (.bool p.broken)
theorem DetAt.keep {w w' : World} {q : Addr} {p : Det} (h : DetAt w q p) (e : w'.heap[q.block]? = w.heap[q.block]?) : DetAt w' q p :=
  ⟨(World.cell?_of_block e).trans h.c0, (World.cell?_of_block (a := ⟨q.block, q.off + 1, none⟩) e).trans h.c1, (World.cell?_of_block (a := ⟨q.block, q.off + 2, none⟩) e).trans h.c2, (World.cell?_of_block (a := ⟨q.block, q.off + 3, none⟩) e).trans h.c3⟩
theorem DetAt.below {w w' : World} {q : Addr} {p : Det} {B : Nat} (h : DetAt w q p) (hb : Below B w w') (hB : q.block < B) : DetAt w' q p := h.keep (hb.block _ hB)
theorem add_plusD (q : Addr) (i : Nat) (h : 0 < i) : q.add i = ⟨q.block, q.off + i, none⟩ := by unfold Addr.add; rw [if_neg (by omega)]
theorem DetsAt.at {w : World} {B : Nat} {A : Option Addr} {n : Nat} {ps : List Det} (h : DetsAt w B A n ps) {k : Nat} (hk : k < n) : ∃ ad p, A = some ad ∧ (ad.add (k * 4)).block < B ∧ ps[k]? = some p ∧ DetAt w (ad.add (k * 4)) p := by
  obtain ⟨hl, _, hc⟩ := h
  obtain ⟨ad, e, hb, hc⟩ := hc (by omega)
  have hp : ps[k]? = some ps[k] := List.getElem?_eq_getElem (by omega)
  have hg := fun i (hi : i < 4) => flat_get (f := Det.cells) (fun _ => rfl) ps k i _ hp hi
  have ha := fun i (hi : 0 < i) => (add_add ad (k * 4) i).symm.trans (add_plusD _ i hi)
  refine ⟨ad, ps[k], e, by rw [add_block]; exact hb, hp, hc _ _ (hg 0 (by decide)), ?_, ?_, ?_⟩
  · rw [← ha 1 (by decide)]; exact hc _ _ (hg 1 (by decide))
  · rw [← ha 2 (by decide)]; exact hc _ _ (hg 2 (by decide))
  · rw [← ha 3 (by decide)]; exact hc _ _ (hg 3 (by decide))
end Go.Proofs.YtmbbmffoihhdfaaDoor

/- Chapter 10's answers as Lean data; no program. -/
namespace Go.Proofs.YtmbbmffoihhdfaaDoor
open Go.RowKit
set_option linter.unusedVariables false

def det0 : Det := ⟨0, 0, 0, false⟩
/-- the j-th detector. -/
def dAt (ds : List Det) (j : Nat) : Det := ds.getD j det0
theorem dAt_some {ds : List Det} {k : Nat} {p : Det} (h : ds[k]? = some p) : dAt ds k = p := by simp [dAt, List.getD, h]
theorem dAt_get {ds : List Det} {k : Nat} (h : k < ds.length) : ds[k]? = some (dAt ds k) := by
  rw [List.getElem?_eq_getElem h]
  simp [dAt, List.getD, List.getElem?_eq_getElem h]
/-- what IsTrusted answers. -/
def trust (d : Det) : Bool := !d.broken && decide (d.age ≤ 900)
/-- a trusted detector of this path. -/
def trFor (id : Int) (d : Det) : Bool := decide (d.path = id) && trust d
/-- the index of the first one. -/
def trK (id : Int) : List Det → Option Nat
  | [] => none
  | d :: ds => if trFor id d then some 0 else (trK id ds).map (· + 1)
theorem trK_some {id : Int} : ∀ {ds : List Det} {k : Nat}, (∀ j, j < k → trFor id (dAt ds j) = false) → k < ds.length → trFor id (dAt ds k) = true → trK id ds = some k
  | [], k, _, h, _ => by simp at h
  | x :: ds, 0, _, h, hp => by
    have : trFor id x = true := hp
    simp [trK, this]
  | x :: ds, k + 1, hn, h, hp => by
    have h0 : trFor id x = false := hn 0 (by omega)
    have ih := trK_some (ds := ds) (k := k) (fun j hj => hn (j + 1) (by omega)) (by simpa using h) hp
    simp [trK, h0, ih]
theorem trK_none {id : Int} : ∀ {ds : List Det}, (∀ j, j < ds.length → trFor id (dAt ds j) = false) → trK id ds = none
  | [], _ => rfl
  | x :: ds, hn => by
    have h0 : trFor id x = false := hn 0 (by simp)
    have ih := trK_none (ds := ds) (fun j hj => hn (j + 1) (by simpa using hj))
    simp [trK, h0, ih]
theorem trK_at {id : Int} : ∀ {ds : List Det} {k : Nat}, trK id ds = some k → k < ds.length
  | [], k, h => by simp [trK] at h
  | x :: ds, k, h => by
    unfold trK at h
    split at h
    · simp at h; subst h; simp
    · cases e : trK id ds with
      | none => rw [e] at h; simp at h
      | some m =>
        rw [e] at h
        simp at h
        subst h
        have := trK_at e
        simpa using this
/-- the count of the first trusted one, or else the other number. -/
def cntD (ds : List Det) (id other : Int) : Int := match trK id ds with | none => other | some k => (dAt ds k).count
def lowD (ds : List Det) (id : Int) : Int := cntD ds id 0
def highD (ds : List Det) (id : Int) : Int := cntD ds id 1000
/-- the greatest of the first k. -/
def stgTo (ds : List Det) (zs : List Int) : Nat → Int
  | 0 => 0
  | k + 1 => if k = 0 then lowD ds (zs.getD 0 0) else maxI (stgTo ds zs k) (lowD ds (zs.getD k 0))
/-- what StageDemand answers. -/
def stgD (ds : List Det) (zs : List Int) : Int := stgTo ds zs zs.length
/-- what BlindPaths answers. -/
def blindP (ps : List Pth) (ds : List Det) : List Int := (ps.filter fun p => (trK p.id ds).isNone).map Pth.id
theorem blind_zero (ps : List Pth) (ds : List Det) : blindP (ps.take 0) ds = [] := by simp [blindP]
theorem blind_yes {ps : List Pth} {ds : List Det} {k : Nat} {p : Pth} (hp : ps[k]? = some p) (h : (trK p.id ds).isNone = true) : blindP (ps.take (k + 1)) ds = blindP (ps.take k) ds ++ [p.id] := by
  unfold blindP
  rw [List.take_add_one, hp, List.filter_append]
  simp only [Option.toList, List.filter_cons, List.filter_nil, h, if_true, List.map_append, List.map_cons, List.map_nil]
theorem blind_no {ps : List Pth} {ds : List Det} {k : Nat} {p : Pth} (hp : ps[k]? = some p) (h : (trK p.id ds).isNone = false) : blindP (ps.take (k + 1)) ds = blindP (ps.take k) ds := by
  unfold blindP
  rw [List.take_add_one, hp, List.filter_append]
  simp [Option.toList, List.filter_cons, List.filter_nil, h]
theorem blind_len (ps : List Pth) (ds : List Det) (k : Nat) : (blindP (ps.take k) ds).length ≤ k := by
  unfold blindP
  rw [List.length_map]
  exact Nat.le_trans (List.length_filter_le _ _) (by rw [List.length_take]; omega)
/-- the i-th detector's own numbers are good. -/
def okD (ps : List Pth) (ds : List Det) (i : Nat) : Bool := decide (0 ≤ findI (dAt ds i).path ps) && inB (dAt ds i).count 0 1000 && inB (dAt ds i).age 0 100000
/-- no earlier one is for the same path. -/
def newD (ds : List Det) (i : Nat) : Bool := (List.range i).all fun k => !decide ((dAt ds k).path = (dAt ds i).path)
def goodD (ps : List Pth) (ds : List Det) (i : Nat) : Bool := okD ps ds i && newD ds i
/-- what AreDetectors answers. -/
def areD (ps : List Pth) (ds : List Det) : Bool := (List.range ds.length).all (goodD ps ds) && (arePs ps && decide (ds.length ≤ 12))
theorem areD_no {ps : List Pth} {ds : List Det} {i : Nat} (hi : i < ds.length) (h : goodD ps ds i = false) : areD ps ds = false := by
  unfold areD
  have : (List.range ds.length).all (goodD ps ds) = false := by
    rw [Bool.eq_false_iff]
    intro ha
    have := List.all_eq_true.1 ha i (List.mem_range.2 hi)
    rw [h] at this
    cases this
  rw [this]
  rfl
theorem areD_end {ps : List Pth} {ds : List Det} (h : ∀ i, i < ds.length → goodD ps ds i = true) : areD ps ds = (arePs ps && decide (ds.length ≤ 12)) := by
  unfold areD
  have : (List.range ds.length).all (goodD ps ds) = true := List.all_eq_true.2 fun k hk => h k (List.mem_range.1 hk)
  rw [this]
  simp
theorem newD_no {ds : List Det} {i k : Nat} (hk : k < i) (h : (dAt ds k).path = (dAt ds i).path) : newD ds i = false := by
  unfold newD
  rw [Bool.eq_false_iff]
  intro ha
  have := List.all_eq_true.1 ha k (List.mem_range.2 hk)
  simp [h] at this
theorem newD_yes {ds : List Det} {i : Nat} (h : ∀ k, k < i → (dAt ds k).path ≠ (dAt ds i).path) : newD ds i = true := by
  unfold newD
  refine List.all_eq_true.2 fun k hk => ?_
  have := h k (List.mem_range.1 hk)
  simp [this]
theorem cntD_bound {ds : List Det} (h : ∀ d ∈ ds, d.wf) (id other : Int) (ho : -9223372036854775808 ≤ other ∧ other ≤ 9223372036854775807) : -9223372036854775808 ≤ cntD ds id other ∧ cntD ds id other ≤ 9223372036854775807 := by
  unfold cntD
  split
  · exact ho
  · rename_i k hk
    have hl := trK_at hk
    have hw := h (dAt ds k) (List.mem_of_getElem? (dAt_get hl))
    exact i64_of_wf hw.2.1
end Go.Proofs.YtmbbmffoihhdfaaDoor

/- Chapter 11's answers as Lean data. No walk. -/
namespace Go.Proofs.YtmbbmffoihhdfaaDoor
open Go.RowKit
set_option linter.unusedVariables false

/-- the seconds that the first k parts need. -/
def needTo (ps : List Pth) (p : List Prt) : Nat → Int
  | 0 => 0
  | k + 1 => needTo ps p k + (leastG ps (prAt p k).stage + clrAt ps p k)
theorem needTo_bound (ps : List Pth) (p : List Prt) : ∀ k : Nat, 0 ≤ needTo ps p k ∧ needTo ps p k ≤ 12 * k
  | 0 => by simp [needTo]
  | k + 1 => by
    have ih := needTo_bound ps p k
    have := leastG_bound ps (prAt p k).stage
    have := clrAt_bound ps p k
    unfold needTo
    omega
/-- what SpareGreen answers. -/
def spareP (ps : List Pth) (p : List Prt) (c : Int) : Int := if isPlan ps p && inB c 1 1000 then maxI (-1) (c - needTo ps p p.length) else -1
theorem spareP_off {ps : List Pth} {p : List Prt} {c : Int} (h : (isPlan ps p && inB c 1 1000) = false) : spareP ps p c = -1 := by unfold spareP; rw [h]; rfl
theorem spareP_on {ps : List Pth} {p : List Prt} {c : Int} (h : isPlan ps p = true) (h2 : inB c 1 1000 = true) : spareP ps p c = maxI (-1) (c - needTo ps p p.length) := by unfold spareP; rw [h, h2]; rfl
theorem spareP_bound (ps : List Pth) (p : List Prt) (c : Int) : -1 ≤ spareP ps p c ∧ spareP ps p c ≤ 1000 := by
  unfold spareP
  split
  · rename_i h
    rw [Bool.and_eq_true] at h
    have := inB_t h.2
    have := needTo_bound ps p p.length
    unfold maxI
    split <;> omega
  · omega
/-- what GreenShare answers. -/
def shareG (ps : List Pth) (p : List Prt) (i : Int) : Int := if isPlan ps p && inB i 0 ((p.length : Int) - 1) then 100 * (prAt p i.toNat).green / sumTo ps p p.length else 0
/-- the weight of a part, and of the first k. -/
def wgt (ds : List Det) (p : List Prt) (j : Nat) : Int := stgD ds (prAt p j).stage + 1
def wgtTo (ds : List Det) (p : List Prt) : Nat → Int
  | 0 => 0
  | k + 1 => wgtTo ds p k + wgt ds p k
/-- the whole seconds of the first k parts. -/
def cutTo (ds : List Det) (p : List Prt) (s : Int) : Nat → Int
  | 0 => 0
  | k + 1 => cutTo ds p s k + s * wgt ds p k / wgtTo ds p p.length
/-- a part with its share. -/
def shrAt (ps : List Pth) (ds : List Det) (p : List Prt) (s : Int) (j : Nat) : Prt :=
  ⟨(prAt p j).stage, minI 60 (leastG ps (prAt p j).stage + s * wgt ds p j / wgtTo ds p p.length + (if (j : Int) < s - cutTo ds p s p.length then 1 else 0))⟩
/-- what ShareGreen answers. -/
def shareP (ps : List Pth) (p : List Prt) (ds : List Det) (c : Int) : List Prt × Bool :=
  if spareP ps p c < 0 || !areD ps ds then (p, false) else ((List.range p.length).map (shrAt ps ds p (spareP ps p c)), true)
/-- the remainders of the first k parts. -/
def remTo (ds : List Det) (p : List Prt) (s : Int) : Nat → Int
  | 0 => 0
  | k + 1 => remTo ds p s k + s * wgt ds p k % wgtTo ds p p.length
theorem rem_cut (ds : List Det) (p : List Prt) (s : Int) : ∀ k, s * wgtTo ds p k = wgtTo ds p p.length * cutTo ds p s k + remTo ds p s k
  | 0 => by simp [wgtTo, cutTo, remTo]
  | k + 1 => by
    have ih := rem_cut ds p s k
    have h := Int.emod_add_mul_ediv (s * wgt ds p k) (wgtTo ds p p.length)
    unfold cutTo remTo
    rw [show wgtTo ds p (k + 1) = wgtTo ds p k + wgt ds p k from rfl, Int.mul_add, Int.mul_add, ih]
    omega
/-- what is left by rounding down. -/
theorem left_rem {ds : List Det} {p : List Prt} (s : Int) (h : 0 < wgtTo ds p p.length) : remTo ds p s p.length / wgtTo ds p p.length = s - cutTo ds p s p.length := by
  have e := rem_cut ds p s p.length
  have : remTo ds p s p.length = wgtTo ds p p.length * (s - cutTo ds p s p.length) := by
    rw [Int.mul_sub, Int.mul_comm _ s]
    omega
  rw [this]
  exact Int.mul_ediv_cancel_left _ (by omega)
end Go.Proofs.YtmbbmffoihhdfaaDoor

/- What the program asks of a timed plan: GreenShare, SpareGreen, PartAt. -/
namespace Go.Proofs.YtmbbmffoihhdfaaDoor
open Go.RowKit
set_option linter.unusedVariables false

theorem share_quoI {ps : List Pth} {p : List Prt} (h : isPlan ps p = true) {k : Nat} (hk : k < p.length) : (100 * (prAt p k).green).tdiv (sumTo ps p p.length) = 100 * (prAt p k).green / sumTo ps p p.length := by
  obtain ⟨_, _, _, h4⟩ := isPlan_parts h
  obtain ⟨_, _, h5, h6⟩ := okPrt_parts (h4 k hk)
  have := leastG_bound ps (prAt p k).stage
  exact Int.tdiv_eq_ediv_of_nonneg (by omega)
theorem maxI_comm (a b : Int) : maxI a b = maxI b a := by unfold maxI; split <;> split <;> omega
theorem plan_greenI {ps : List Pth} {p : List Prt} (h : isPlan ps p = true) {k : Nat} (hk : k < p.length) : 0 ≤ (prAt p k).green ∧ (prAt p k).green ≤ 60 := by
  obtain ⟨_, _, _, h4⟩ := isPlan_parts h
  obtain ⟨_, _, h5, h6⟩ := okPrt_parts (h4 k hk)
  have := leastG_bound ps (prAt p k).stage
  omega
set_option maxHeartbeats 4000000 in
set_option maxRecDepth 100000 in
theorem impl_GreenShare {w : World} {A : Option Addr} {n c B : Nat} {ps : List Pth} {A2 : Option Addr} {n2 c2 B2 : Nat} {p : List Prt} (I : PlnIn w A n c B ps A2 n2 c2 B2 p) (a : Int) :
    Calls Tryd.prog 51 #[.slice A n c, .slice A2 n2 c2, .int .i64 a] w fun e w' => e = .returned (.int .i64 (shareG ps p a)) ∧ Below w.heap.size w w' := by
  have hst : shareG ps p a = if isPlan ps p && inB a 0 ((n2 : Int) - 1) then 100 * (prAt p a.toNat).green / sumTo ps p n2 else 0 := by unfold shareG; rw [I.len]
  have e1 : IntKind.i64.wrap ((n2 : Int) - 1) = (n2 : Int) - 1 := by have := I.hn2; rw [IntKind.wrap_i64]; omega
  have hn2 := I.hn2
  cases hp : isPlan ps p
  · have H := impl_timePlan_off I hp
    unfold t16 at H
    have HC := Lib.hid H
    have HR : Hid (shareG ps p a = 0) := Lib.hid (by rw [hst, hp]; rfl)
    clear H hp I hst
    go_enter Tryd.func51, Tryd.ntmps51
    go_wp2_with fail
    refine HC.out.mono ?_
    rintro e w1 ⟨rfl, hb⟩
    have HB := Lib.hid hb
    clear hb
    go_wp2
    go_ret
    exact ⟨by rw [HR.out]; try rfl, HB.out.alloc HB.out.size _⟩
  · have H := impl_timePlan_on I hp
    unfold t16 at H
    have HC := Lib.hid H
    have HST := Lib.hid hst
    have HP := Lib.hid hp
    have HI := Lib.hid I
    clear H hp I hst
    go_enter Tryd.func51, Tryd.ntmps51
    go_wp2_with fail
    refine HC.out.mono ?_
    rintro e w1 ⟨a1, q1, a2, q2, rfl, hphs, hb⟩
    have HB := Lib.hid hb
    clear hb hphs
    go_wp2_with fail
    refine (impl_InRange _ _ _ _).mono ?_
    cases hi : inB a 0 ((n2 : Int) - 1)
    · rintro e w2 ⟨rfl, rfl⟩
      have HR : Hid (shareG ps p a = 0) := Lib.hid (by rw [HST.out, hi, Bool.and_false]; rfl)
      clear hi
      go_wp2
      go_ret
      exact ⟨by rw [HR.out]; try rfl, HB.out.alloc HB.out.size _⟩
    · rintro e w2 ⟨rfl, rfl⟩
      have hab := inB_t hi
      obtain ⟨m, rfl⟩ : ∃ m : Nat, a = (m : Int) := ⟨a.toNat, by omega⟩
      have HR : Hid (shareG ps p (m : Int) = 100 * (prAt p m).green / sumTo ps p n2) := Lib.hid (by rw [HST.out, HP.out, hi]; rfl)
      have hmn : m < n2 := by omega
      have hq := share_quoI HP.out (k := m) (by rw [HI.out.len]; exact hmn)
      rw [HI.out.len] at hq
      have hgb := plan_greenI HP.out (k := m) (by rw [HI.out.len]; exact hmn)
      have hsb := sumTo_bound HP.out n2 (by rw [HI.out.len]; exact Nat.le_refl _)
      obtain ⟨w3, hw3⟩ : ∃ w3, w3 = w1.alloc (.cells #[.slice A n c, .int .u16 (rowSt ps n 0 0 : Nat), .int .u16 (rowSt ps n 0 1 : Nat), .int .u16 (rowSt ps n 0 2 : Nat), .int .u16 (rowSt ps n 0 3 : Nat), .int .u16 (rowSt ps n 0 4 : Nat), .int .u16 (rowSt ps n 0 5 : Nat), .int .u16 (rowSt ps n 0 6 : Nat), .int .u16 (rowSt ps n 0 7 : Nat), .int .u16 (rowSt ps n 0 8 : Nat), .int .u16 (rowSt ps n 0 9 : Nat), .int .u16 (rowSt ps n 0 10 : Nat), .int .u16 (rowSt ps n 0 11 : Nat), .slice a1 n2 q1, .slice a2 n2 q2, .int .i64 (sumTo ps p n2)] 78) := ⟨_, rfl⟩
      obtain ⟨hk0, hsz, hbw⟩ := one_block hw3
      have hb3 := HB.out.trans (hbw.mono HB.out.size)
      obtain ⟨ad, A', mm, c', rfl, hadb, hqq, hii, hmc, hnil⟩ := HI.out.h2.at hmn
      have hadb2 : (ad.add (m * 2)).block < w.heap.size := Nat.lt_of_lt_of_le hadb HI.out.hB2
      have hlt3 : w1.heap.size < w3.heap.size := by omega
      have d1 := fun x : GW w3 => ((hqq.below hb3 hadb2).below x.ok (by have := HB.out.size; omega)).c1
      have d15 := fun x : GW w3 => (x.ok.cell (p := ⟨w1.heap.size, 15, none⟩) hlt3).trans ((cell_of_row _ _ 15 _ _ _ hk0).trans rfl : w3.cell? ⟨w1.heap.size, 15, none⟩ = some (.int .i64 (sumTo ps p n2)))
      have i1 : (0 : Int) ≤ (m : Int) := by omega
      have i2 : (m : Int) < (n2 : Int) := by omega
      have e8 : IntKind.i64.wrap (100 * (prAt p m).green) = 100 * (prAt p m).green := by rw [IntKind.wrap_i64]; omega
      have hz : ¬ sumTo ps p n2 = 0 := by omega
      have hrb : 0 ≤ 100 * (prAt p m).green / sumTo ps p n2 ∧ 100 * (prAt p m).green / sumTo ps p n2 ≤ 6000 := ⟨Int.ediv_nonneg (by omega) (by omega), Int.le_trans (Int.ediv_le_self _ (by omega)) (by omega)⟩
      have HB3 := Lib.hid hb3
      clear hi hab HST hk0 hsz hbw hb3 hqq hii hmc hnil
      generalize (prAt p m).green = gr at *
      generalize sumTo ps p n2 = L at *
      generalize 100 * gr / L = r at *
      go_wp2
      rw [← hw3]
      clear hw3
      refine wp_region_grow (by kernel_rfl) (by kernel_rfl) ?_
      repeat (go_big_quiet_step (fail))
      refine wpQuiet_nil ?_
      intro x3
      have hbx := x3.ok
      clear d1 d15
      generalize x3.val = w4 at *
      go_wp2
      go_ret
      exact ⟨by rw [HR.out]; try rfl, HB3.out.trans (hbx.mono HB3.out.size)⟩
set_option maxHeartbeats 4000000 in
set_option maxRecDepth 100000 in
theorem impl_SpareGreen {w : World} {A : Option Addr} {n c B : Nat} {ps : List Pth} {A2 : Option Addr} {n2 c2 B2 : Nat} {p : List Prt} (I : PlnIn w A n c B ps A2 n2 c2 B2 p) (a : Int) :
    Calls Tryd.prog 53 #[.slice A n c, .slice A2 n2 c2, .int .i64 a] w fun e w' => e = .returned (.int .i64 (spareP ps p a)) ∧ Below w.heap.size w w' := by
  cases hp : isPlan ps p
  · have H := impl_timePlan_off I hp
    unfold t16 at H
    have HC := Lib.hid H
    have HR := Lib.hid (spareP_off (ps := ps) (p := p) (c := a) (by rw [hp]; rfl))
    clear H hp I
    go_enter Tryd.func53, Tryd.ntmps53
    go_wp2_with fail
    refine HC.out.mono ?_
    rintro e w1 ⟨rfl, hb⟩
    have HB := Lib.hid hb
    clear hb
    go_wp2
    go_ret
    exact ⟨by rw [HR.out]; try rfl, HB.out.alloc HB.out.size _⟩
  · have H := impl_timePlan_on I hp
    unfold t16 at H
    have HC := Lib.hid H
    have HP := Lib.hid hp
    have HI := Lib.hid I
    clear H hp I
    go_enter Tryd.func53, Tryd.ntmps53
    go_wp2_with fail
    refine HC.out.mono ?_
    rintro e w1 ⟨a1, q1, a2, q2, rfl, hphs, hb⟩
    have HB := Lib.hid hb
    have HPH := Lib.hid hphs
    clear hb hphs
    go_wp2_with fail
    refine (impl_InRange _ _ _ _).mono ?_
    cases hi : inB a 1 1000
    · rintro e w2 ⟨rfl, rfl⟩
      have HR := Lib.hid (spareP_off (ps := ps) (p := p) (c := a) (by rw [hi, Bool.and_false]))
      clear hi
      go_wp2
      go_ret
      exact ⟨by rw [HR.out]; try rfl, HB.out.alloc HB.out.size _⟩
    · rintro e w2 ⟨rfl, rfl⟩
      have hab := inB_t hi
      have hl2 := HI.out.len
      have HR : Hid (spareP ps p a = maxI (-1) (a - needTo ps p n2)) := Lib.hid (by rw [spareP_on HP.out hi, hl2])
      obtain ⟨⟨hp1, hp6⟩, _⟩ := isPlan_parts HP.out
      have HL2 := Lib.hid hl2
      rw [hl2] at hp1 hp6
      obtain ⟨g1, rfl, hg1⟩ := HPH.out.some (by omega)
      obtain ⟨w3, hw3⟩ : ∃ w3, w3 = w1.alloc (.cells #[.slice A n c, .int .u16 (rowSt ps n 0 0 : Nat), .int .u16 (rowSt ps n 0 1 : Nat), .int .u16 (rowSt ps n 0 2 : Nat), .int .u16 (rowSt ps n 0 3 : Nat), .int .u16 (rowSt ps n 0 4 : Nat), .int .u16 (rowSt ps n 0 5 : Nat), .int .u16 (rowSt ps n 0 6 : Nat), .int .u16 (rowSt ps n 0 7 : Nat), .int .u16 (rowSt ps n 0 8 : Nat), .int .u16 (rowSt ps n 0 9 : Nat), .int .u16 (rowSt ps n 0 10 : Nat), .int .u16 (rowSt ps n 0 11 : Nat), .slice (some ⟨g1, 0, none⟩) n2 q1, .slice a2 n2 q2, .int .i64 (sumTo ps p n2)] 78) := ⟨_, rfl⟩
      obtain ⟨hk0, hsz, hbw⟩ := one_block hw3
      have HB3 := Lib.hid (HB.out.trans (hbw.mono HB.out.size))
      have HPH3 := Lib.hid (HPH.out.below hbw)
      clear hi hl2 hk0 hsz hbw
      go_wp2
      rw [← hw3]
      clear hw3
      go_loopw [2, 28] (fun x i wr => ∃ k : Nat, k ≤ n2 ∧ i = .int .i64 k ∧ (∃ q : Int, x = .int .i64 q ∧ q = a - needTo ps p k) ∧ Below w3.heap.size w3 wr) (fun _ i _ => n2 - (intOf i).toNat)
      case atStart => exact ⟨0, Nat.zero_le _, rfl, ⟨a, rfl, by simp [needTo]⟩, Below.refl _ _⟩
      case round =>
        obtain ⟨k, hk, rfl, ⟨q, rfl, hq⟩, hbl⟩ := hrel
        have HQ := Lib.hid hq
        have HBL := Lib.hid hbl
        have hnb := needTo_bound ps p k
        have hqb : -100 ≤ q ∧ q ≤ 1000 := by omega
        clear hq hnb
        by_cases hlt : k < n2
        · have hce := fun d hd => (HPH3.out.below hbl).cells hlt d hd
          have hlb := leastG_bound ps (prAt p k).stage
          have hcb := clrAt_bound ps p k
          have e0 : wr.cell? ⟨g1, k * 5, none⟩ = some (.int .u16 (maskL ps (prAt p k).stage : Nat)) := hce 0 (by decide)
          have e1 : wr.cell? ⟨g1, k * 5 + 1, none⟩ = some (.int .u16 (maskL ps (prAt p (nextJ p k)).stage : Nat)) := hce 1 (by decide)
          have e2 : wr.cell? ⟨g1, k * 5 + 2, none⟩ = some (.int .i64 (prAt p k).green) := hce 2 (by decide)
          have e3 : wr.cell? ⟨g1, k * 5 + 3, none⟩ = some (.int .i64 (clrAt ps p k)) := hce 3 (by decide)
          have e4 : wr.cell? ⟨g1, k * 5 + 4, none⟩ = some (.int .i64 (leastG ps (prAt p k).stage)) := hce 4 (by decide)
          have HS : Hid (q - (clrAt ps p k + leastG ps (prAt p k).stage) = a - needTo ps p (k + 1)) := Lib.hid (by
            have := HQ.out
            show _ = a - (needTo ps p k + (leastG ps (prAt p k).stage + clrAt ps p k))
            omega)
          have hb2 := Lib.hid (HBL.out.alloc HBL.out.size (.cells #[.int .u16 (maskL ps (prAt p k).stage : Nat), .int .u16 (maskL ps (prAt p (nextJ p k)).stage : Nat), .int .i64 (prAt p k).green, .int .i64 (clrAt ps p k), .int .i64 (leastG ps (prAt p k).stage)] 87))
          clear hce hbl
          generalize leastG ps (prAt p k).stage = le at *
          generalize clrAt ps p k = cl at *
          generalize maskL ps (prAt p (nextJ p k)).stage = mx at *
          generalize maskL ps (prAt p k).stage = mo at *
          generalize (prAt p k).green = gr at *
          go_wp2
          go_roundw
          case rel => exact ⟨k + 1, by omega, by go_num, ⟨_, rfl, HS.out⟩, hb2.out⟩
          case measure => simp [intOf]; omega
        · obtain rfl : k = n2 := by omega
          rw [HQ.out] at hqb ⊢
          clear hbl
          go_wp2_with fail
          refine (impl_Max _ _ _).mono ?_
          rintro e w5 ⟨rfl, hb5⟩
          have HB5 := Lib.hid ((HB3.out.trans (HBL.out.mono HB3.out.size)).trans (hb5.mono (HB3.out.trans (HBL.out.mono HB3.out.size)).size))
          clear hb5
          go_wp2
          go_ret
          exact ⟨by rw [HR.out, maxI_comm]; try rfl, HB5.out⟩
theorem impl_isSecP (n : Int) (w : World) : Calls Tryd.prog 70 #[.int .i64 n] w fun e w' => e = .returned (.bool (inB n 0 1000000)) ∧ w = w' := by
  go_enter Tryd.func70, Tryd.ntmps70
  go_wp2_with fail
  refine (impl_InRange _ _ _ _).mono ?_
  rintro e w1 ⟨rfl, rfl⟩
  go_wp2
  go_ret
  exact ⟨rfl, rfl⟩
set_option maxHeartbeats 4000000 in
theorem impl_tlAt {ps : List Pth} {p : List Prt} {n2 : Nat} (hp : isPlan ps p = true) (hl2 : p.length = n2) (v1 : Value) {a1 : Option Addr} {lo q1 : Nat} {a2 : Option Addr} {q2 : Nat} (L : Int) (s : Int) (w : World) (hP : PhsIn w lo ps p n2 a1 q1 a2 q2) (h0 : 0 ≤ s) (h1 : s < sumTo ps p n2) :
    Calls Tryd.prog 71 #[.agg #[v1, .slice a2 n2 q2, .int .i64 L], .int .i64 s] w fun e w' => e = .returned (.tuple #[.int .i64 (locP ps p s : Nat), .int .i64 (s - sumTo ps p (locP ps p s))]) ∧ Below w.heap.size w w' := by
  obtain ⟨⟨hp1, hp6⟩, _⟩ := isPlan_parts hp
  rw [hl2] at hp1 hp6
  obtain ⟨g2, rfl⟩ : ∃ g, a2 = some ⟨g, 0, none⟩ := by
    rcases hP.2.2 with ⟨q, _⟩ | ⟨g, cap, cur, hv, _⟩
    · injection q; omega
    · injection hv with h1 h2 h3; exact ⟨_, h1⟩
  have hg2 := (ownr_block hP.2 _ rfl).2
  have hst : ∀ m, m < n2 → w.cell? ⟨g2, m, none⟩ = some (.int .i64 (sumTo ps p m)) := fun m hm => row_cell hP.2 (by rw [List.getElem?_map]; unfold begTo; rw [List.getElem?_map, List.getElem?_range hm]; rfl)
  have HST := Lib.hid hst
  have HLOC : Hid (locP ps p s = locD ps p s (n2 - 1)) := Lib.hid (by unfold locP; rw [hl2])
  have e1 : IntKind.i64.wrap ((n2 : Int) - 1) = ((n2 - 1 : Nat) : Int) := by rw [IntKind.wrap_i64]; omega
  have hs9 : s ≤ 1000000 := by
    have := (sumTo_bound hp n2 (by omega)).2
    omega
  have HSB := Lib.hid (fun m (hm : m < n2) => sumTo_bound hp m (by omega))
  have HDN := Lib.hid (fun k => locD_down (ps := ps) (p := p) (s := s) (k := k))
  have HHE := Lib.hid (fun k => locD_here (ps := ps) (p := p) (s := s) (k := k))
  obtain ⟨wA, hwA⟩ : ∃ wA, wA = w.alloc (.cells #[v1, .slice (some ⟨g2, 0, none⟩) n2 q2, .int .i64 L] 76) := ⟨_, rfl⟩
  obtain ⟨hk0, hsz, hbw⟩ := one_block hwA
  have hlt : w.heap.size < wA.heap.size := by omega
  have HBW := Lib.hid hbw
  have c1 : wA.cell? ⟨w.heap.size, 1, none⟩ = some (.slice (some ⟨g2, 0, none⟩) n2 q2) := (cell_of_row _ _ 1 _ _ _ hk0).trans rfl
  obtain ⟨m0, hm0⟩ : ∃ m0, m0 = n2 - 1 := ⟨_, rfl⟩
  rw [← hm0] at e1 HLOC
  have hm1 : m0 < n2 := by omega
  clear hP hst hk0 hsz hbw hp hm0
  go_enter Tryd.func71, Tryd.ntmps71
  go_wp2
  rw [← hwA]
  clear hwA e1
  go_loopw [6] (fun x wr => ∃ k : Nat, k < n2 ∧ x = .int .i64 k ∧ locD ps p s m0 = locD ps p s k ∧ wA = wr) (fun x _ => (intOf x).toNat)
  case atStart => exact ⟨m0, hm1, rfl, rfl, rfl⟩
  case round =>
    obtain ⟨k, hk, rfl, hloc, rfl⟩ := hrel
    have HL := Lib.hid hloc
    clear hloc
    have hs := (HBW.out.cell (p := ⟨g2, k, none⟩) hg2).trans (HST.out k hk)
    have hsb := HSB.out k hk
    have i1 : (0 : Int) ≤ (k : Int) := by omega
    have i2 : (k : Int) < (n2 : Int) := by omega
    by_cases hge : sumTo ps p k ≤ s
    · have HR : Hid (locP ps p s = k) := Lib.hid (by rw [HLOC.out, HL.out]; exact HHE.out k hge)
      have HR2 : Hid (sumTo ps p (locP ps p s) = sumTo ps p k) := Lib.hid (by rw [HR.out])
      have e8 : IntKind.i64.wrap (s - sumTo ps p k) = s - sumTo ps p k := by rw [IntKind.wrap_i64]; omega
      have d1 := fun x : GW wA => (x.ok.cell (p := ⟨w.heap.size, 1, none⟩) hlt).trans c1
      have d2 := fun x : GW wA => (x.ok.cell (p := ⟨g2, k, none⟩) (by show g2 < _; omega)).trans hs
      generalize sumTo ps p k = S at *
      go_wp2
      refine wp_region_grow (by kernel_rfl) (by kernel_rfl) ?_
      repeat (go_big_quiet_step (fail))
      refine wpQuiet_nil ?_
      intro x3
      have hbx := x3.ok
      clear d1 d2 c1 hs
      generalize x3.val = w4 at *
      go_wp2
      go_ret2
      exact ⟨by rw [HR2.out, HR.out]; try rfl, HBW.out.trans (hbx.mono HBW.out.size)⟩
    · obtain ⟨k, rfl⟩ : ∃ j, k = j + 1 := ⟨k - 1, by
        have : k ≠ 0 := fun e => by rw [e] at hge; exact hge h0
        omega⟩
      have HD := Lib.hid (HL.out.trans (HDN.out k (by omega)))
      have e7 : IntKind.i64.wrap (((k + 1 : Nat) : Int) - 1) = (k : Int) := by rw [IntKind.wrap_i64]; omega
      generalize sumTo ps p (k + 1) = S at *
      go_wp2
      go_roundw
      case rel => exact ⟨k, by omega, by go_num, HD.out, trivial⟩
      case measure => simp [intOf]
theorem part_offI {ps : List Pth} {p : List Prt} {t : Int} (h : (isPlan ps p && inB t 0 1000000) = false) : partP ps p t = (-1, 0) := by unfold partP; rw [h]; rfl
theorem part_onI {ps : List Pth} {p : List Prt} {t : Int} (h : isPlan ps p = true) (ht : inB t 0 1000000 = true) : partP ps p t = ((locP ps p (t % sumTo ps p p.length) : Int), t % sumTo ps p p.length - sumTo ps p (locP ps p (t % sumTo ps p p.length))) := by unfold partP; rw [h, ht]; rfl
set_option maxHeartbeats 4000000 in
set_option maxRecDepth 100000 in
theorem impl_PartAt {w : World} {A : Option Addr} {n c B : Nat} {ps : List Pth} {A2 : Option Addr} {n2 c2 B2 : Nat} {p : List Prt} (I : PlnIn w A n c B ps A2 n2 c2 B2 p) (a : Int) :
    Calls Tryd.prog 33 #[.slice A n c, .slice A2 n2 c2, .int .i64 a] w fun e w' => e = .returned (.tuple #[.int .i64 (partP ps p a).1, .int .i64 (partP ps p a).2]) ∧ Below w.heap.size w w' := by
  cases hp : isPlan ps p
  · have H := impl_timePlan_off I hp
    unfold t16 at H
    have HC := Lib.hid H
    have HR := Lib.hid (part_offI (ps := ps) (p := p) (t := a) (by rw [hp]; rfl))
    clear H hp I
    go_enter Tryd.func33, Tryd.ntmps33
    go_wp2_with fail
    refine HC.out.mono ?_
    rintro e w1 ⟨rfl, hb⟩
    have HB := Lib.hid hb
    clear hb
    go_wp2
    go_ret2
    exact ⟨by rw [HR.out]; try rfl, HB.out.alloc HB.out.size _⟩
  · have H := impl_timePlan_on I hp
    unfold t16 at H
    have HC := Lib.hid H
    have HP := Lib.hid hp
    have HI := Lib.hid I
    clear H hp I
    go_enter Tryd.func33, Tryd.ntmps33
    go_wp2_with fail
    refine HC.out.mono ?_
    rintro e w1 ⟨a1, q1, a2, q2, rfl, hphs, hb⟩
    have HB := Lib.hid hb
    have HPH := Lib.hid hphs
    clear hb hphs
    go_wp2_with fail
    refine (impl_isSecP _ _).mono ?_
    cases hi : inB a 0 1000000
    · rintro e w2 ⟨rfl, rfl⟩
      have HR := Lib.hid (part_offI (ps := ps) (p := p) (t := a) (by rw [hi, Bool.and_false]))
      clear hi
      go_wp2
      go_ret2
      exact ⟨by rw [HR.out]; try rfl, HB.out.alloc HB.out.size _⟩
    · rintro e w2 ⟨rfl, rfl⟩
      have hab := inB_t hi
      have hl2 := HI.out.len
      have HR := Lib.hid (part_onI HP.out hi)
      rw [hl2] at HR
      obtain ⟨⟨hp1, hp6⟩, _⟩ := isPlan_parts HP.out
      have hsb := sumTo_bound HP.out n2 (by omega)
      have hS0 := Int.emod_nonneg a (show sumTo ps p n2 ≠ 0 by omega)
      have hS1 := Int.emod_lt_of_pos a (show 0 < sumTo ps p n2 by omega)
      have e1 : a.tmod (sumTo ps p n2) = a % sumTo ps p n2 := Int.tmod_eq_emod_of_nonneg hab.1
      have z1 : ¬ sumTo ps p n2 = 0 := by omega
      have HTA := Lib.hid (fun (v1 : Value) L W (hW : PhsIn W w.heap.size ps p n2 a1 q1 a2 q2) => impl_tlAt HP.out hl2 v1 L (a % sumTo ps p n2) W hW hS0 hS1)
      obtain ⟨w3, hw3⟩ : ∃ w3, w3 = w1.alloc (.cells #[.slice A n c, .int .u16 (rowSt ps n 0 0 : Nat), .int .u16 (rowSt ps n 0 1 : Nat), .int .u16 (rowSt ps n 0 2 : Nat), .int .u16 (rowSt ps n 0 3 : Nat), .int .u16 (rowSt ps n 0 4 : Nat), .int .u16 (rowSt ps n 0 5 : Nat), .int .u16 (rowSt ps n 0 6 : Nat), .int .u16 (rowSt ps n 0 7 : Nat), .int .u16 (rowSt ps n 0 8 : Nat), .int .u16 (rowSt ps n 0 9 : Nat), .int .u16 (rowSt ps n 0 10 : Nat), .int .u16 (rowSt ps n 0 11 : Nat), .slice a1 n2 q1, .slice a2 n2 q2, .int .i64 (sumTo ps p n2)] 78) := ⟨_, rfl⟩
      obtain ⟨hk0, hsz, hbw⟩ := one_block hw3
      have hlt3 : w1.heap.size < w3.heap.size := by omega
      have HB3 := Lib.hid (HB.out.trans (hbw.mono HB.out.size))
      have HPH3 := Lib.hid (HPH.out.below hbw)
      have d13 := fun x : GW w3 => (x.ok.cell (p := ⟨w1.heap.size, 13, none⟩) hlt3).trans ((cell_of_row _ _ 13 _ _ _ hk0).trans rfl : w3.cell? ⟨w1.heap.size, 13, none⟩ = some (.slice a1 n2 q1))
      have d14 := fun x : GW w3 => (x.ok.cell (p := ⟨w1.heap.size, 14, none⟩) hlt3).trans ((cell_of_row _ _ 14 _ _ _ hk0).trans rfl : w3.cell? ⟨w1.heap.size, 14, none⟩ = some (.slice a2 n2 q2))
      have d15 := fun x : GW w3 => (x.ok.cell (p := ⟨w1.heap.size, 15, none⟩) hlt3).trans ((cell_of_row _ _ 15 _ _ _ hk0).trans rfl : w3.cell? ⟨w1.heap.size, 15, none⟩ = some (.int .i64 (sumTo ps p n2)))
      have hTA := fun x : GW w3 => HTA.out (.slice a1 n2 q1) (sumTo ps p n2) x.val (HPH3.out.below x.ok)
      clear hi hab hk0 hsz hbw hl2 hsb HTA
      generalize a % sumTo ps p n2 = S at *
      generalize sumTo ps p n2 = L at *
      generalize hq : S - sumTo ps p (locP ps p S) = q at *
      generalize locP ps p S = k at *
      clear hq
      go_wp2
      rw [← hw3]
      clear hw3
      refine wp_region_grow (by kernel_rfl) (by kernel_rfl) ?_
      repeat (go_big_quiet_step (first | (go_at_call 71; exact calls_gw _ (hTA _))))
      refine wpQuiet_nil ?_
      intro x3
      have hbx := x3.ok
      clear d13 d14 d15 hTA
      generalize x3.val = w4 at *
      go_wp2
      go_ret2
      exact ⟨by rw [HR.out]; try rfl, HB3.out.trans (hbx.mono HB3.out.size)⟩
end Go.Proofs.YtmbbmffoihhdfaaDoor

/- Chapter 9's model: PartAt. -/
namespace Go.Proofs.YtmbbmffoihhdfaaDoor
open Go.RowKit
set_option linter.unusedVariables false

theorem part_off {ps : List Pth} {p : List Prt} {t : Int} (h : (isPlan ps p && inB t 0 1000000) = false) : partP ps p t = (-1, 0) := by unfold partP; rw [h]; rfl
theorem part_on {ps : List Pth} {p : List Prt} {t : Int} (h : isPlan ps p = true) (ht : inB t 0 1000000 = true) {k : Nat} {q : Int} (hk : k < p.length) (hq : q = t % sumTo ps p p.length - sumTo ps p k) (h0 : 0 ≤ q) (h1 : q < longAt ps p k) : partP ps p t = ((k : Int), q) := by
  have e : locP ps p (t % sumTo ps p p.length) = k := locD_eq h (by omega) (by show _ < sumTo ps p k + longAt ps p k; omega) (by omega) (by omega)
  unfold partP
  rw [h, ht, e, ← hq]
  rfl
set_option maxHeartbeats 2000000 in
theorem spec_PartAt (A : Option Addr) (n c B : Nat) (ps : List Pth) (A2 : Option Addr) (n2 c2 B2 : Nat) (p : List Prt) (a : Int) (w : World) (h : PthsAt w B A n ps) (hB : B ≤ w.heap.size) (hn : n ≤ 4294967296) (h2 : PrtsAt w B2 A2 n2 p) (hB2 : B2 ≤ w.heap.size) (hn2 : n2 ≤ 1048576) (hm : ∀ j, j < n2 → (prAt p j).stage.length ≤ 1048576) :
    Calls Tryd.prog 32 #[.slice A n c, .slice A2 n2 c2, .int .i64 a] w fun e w' => e = .returned (.tuple #[.int .i64 (partP ps p a).1, .int .i64 (partP ps p a).2]) ∧ Below w.heap.size w w' := by
  have hl2 := h2.1
  have HIP := Lib.hid (fun x (hx : Below w.heap.size w x) => spec_IsPlan A n c B ps A2 n2 c2 B2 p x (h.below (hx.mono hB)) (Nat.le_trans hB hx.size) hn (h2.below hB2 hx) (Nat.le_trans hB2 hx.size) hn2 hm)
  have HCY := Lib.hid (fun x (hx : Below w.heap.size w x) => spec_Cycle A n c B ps A2 n2 c2 B2 p x (h.below (hx.mono hB)) (Nat.le_trans hB hx.size) hn (h2.below hB2 hx) (Nat.le_trans hB2 hx.size) hn2 hm)
  have HL8 := Lib.hid (fun k x (hx : Below w.heap.size w x) (hk : k < n2) hg => spec_l8Long A n c B ps A2 n2 c2 B2 p k x (h.below (hx.mono hB)) (Nat.le_trans hB hx.size) hn (h2.below hB2 hx) (Nat.le_trans hB2 hx.size) hn2 hm hk hg)
  have HGR := Lib.hid (fun (hh : isPlan ps p = true) k (hk : k < n2) => plan_green hh (show k < p.length by omega))
  have HLB := Lib.hid (fun (hh : isPlan ps p = true) k (hk : k < n2) => longAt_bound hh (show k < p.length by omega))
  have HOFF := Lib.hid (fun hh => part_off (ps := ps) (p := p) (t := a) hh)
  have HON := Lib.hid (fun q1 q2 k q (hk : k < n2) hq h0 h1 => part_on (ps := ps) (p := p) (t := a) q1 q2 (k := k) (q := q) (by omega) hq h0 h1)
  have HL2 := Lib.hid hl2
  clear h h2 hm hl2
  go_enter Tryd.func32, Tryd.ntmps32
  go_wp2_with fail
  refine (HIP.out w (Below.refl _ _)).mono ?_
  cases hp : isPlan ps p
  · have HR := Lib.hid (HOFF.out (by rw [hp]; rfl))
    rintro e w3 ⟨rfl, hb3⟩
    clear hp
    go_wp2
    go_ret2
    exact ⟨by rw [HR.out]; try rfl, hb3⟩
  rintro e w3 ⟨rfl, hb3⟩
  have HB3 := Lib.hid hb3
  have HP := Lib.hid hp
  clear hb3 hp
  have HIN := Lib.hid (spec_l1In a 0 1000000 w3)
  go_wp2_with fail
  refine HIN.out.mono ?_
  cases hi : inB a 0 1000000
  · have HR := Lib.hid (HOFF.out (by rw [hi, Bool.and_false]))
    rintro e w4 ⟨rfl, rfl⟩
    clear hi
    go_wp2
    go_ret2
    exact ⟨by rw [HR.out]; try rfl, HB3.out⟩
  rintro e w4 ⟨rfl, rfl⟩
  have hab := inB_t hi
  have HI := Lib.hid hi
  have HC := Lib.hid (HCY.out w3 HB3.out)
  have hcb := cycle_bound HP.out
  have hcy := cycle_yes HP.out
  have hS0 := Int.emod_nonneg a (show cycleP ps p ≠ 0 by omega)
  have hS1 := Int.emod_lt_of_pos a (show 0 < cycleP ps p by omega)
  have e1 : a.tmod (cycleP ps p) = a % cycleP ps p := Int.tmod_eq_emod_of_nonneg hab.1
  have hp6 := (isPlan_parts HP.out).1
  rw [HL2.out] at hp6
  have HCE : Hid (a % cycleP ps p = a % sumTo ps p p.length) := Lib.hid (by rw [hcy])
  have HCN : Hid (a % cycleP ps p < sumTo ps p n2) := Lib.hid (by rw [← HL2.out, ← hcy]; exact hS1)
  have z1 : ¬ cycleP ps p = 0 := by omega
  clear hi HIN HIP HCY HOFF hcy hS1
  generalize a % cycleP ps p = S at *
  generalize cycleP ps p = cy at *
  go_wp2_with fail
  refine HC.out.mono ?_
  rintro e w4 ⟨rfl, hb4⟩
  have HB4 := Lib.hid (HB3.out.trans (hb4.mono HB3.out.size))
  clear hb4 HC
  go_wp2
  clear e1 z1 hcb
  go_loopw [8, 9] (fun x i wr => ∃ (k : Nat) (q : Int), k < n2 ∧ i = .int .i64 k ∧ x = .int .i64 q ∧ q = S - sumTo ps p k ∧ (0 ≤ q ∧ q ≤ S) ∧ Below w.heap.size w wr) (fun _ i _ => n2 - (intOf i).toNat)
  case atStart => exact ⟨0, S, by omega, rfl, rfl, by simp [sumTo], ⟨hS0, Int.le_refl _⟩, HB4.out⟩
  case round =>
    obtain ⟨k, q, hk, rfl, rfl, hq, hq0, hbl⟩ := hrel
    have HQ := Lib.hid hq
    have HBW := Lib.hid hbl
    clear hq hbl
    have hlb := HLB.out HP.out k hk
    have HL := Lib.hid (HL8.out k wr HBW.out hk (HGR.out HP.out k hk))
    have hS6 : S ≤ 1000000000 := by
      have := HCN.out
      have := (sumTo_bound HP.out n2 (by have := HL2.out; omega)).2
      omega
    have HNX : Hid (longAt ps p k ≤ q → k + 1 < n2) := Lib.hid (fun hh => by
      by_cases e : k + 1 < n2
      · exact e
      · have e' : k + 1 = n2 := by omega
        have h1 := HCN.out
        rw [← e'] at h1
        have h1' : S < sumTo ps p k + longAt ps p k := h1
        have := HQ.out
        omega)
    have HST : Hid (q - longAt ps p k = S - sumTo ps p (k + 1)) := Lib.hid (by
      have := HQ.out
      show q - longAt ps p k = S - (sumTo ps p k + longAt ps p k)
      omega)
    have HYS : Hid (q < longAt ps p k → partP ps p a = ((k : Int), q)) := Lib.hid (fun hh => HON.out HP.out HI.out k q hk (by rw [HQ.out, HCE.out]) hq0.1 hh)
    generalize longAt ps p k = lo at *
    go_wp2_with fail
    refine HL.out.mono ?_
    rintro e w5 ⟨rfl, hb5⟩
    have HB5 := Lib.hid (HBW.out.trans (hb5.mono HBW.out.size))
    clear hb5 HL
    by_cases hlt : q < lo
    · have HR := Lib.hid (HYS.out hlt)
      go_wp2
      go_ret2
      exact ⟨by rw [HR.out]; try rfl, HB5.out⟩
    · have hn1 := HNX.out (by omega)
      have e4 : IntKind.i64.wrap (q - lo) = q - lo := by rw [IntKind.wrap_i64]; omega
      go_wp2
      go_roundw
      case rel => exact ⟨k + 1, q - lo, hn1, by go_num, rfl, HST.out, ⟨by omega, by omega⟩, HB5.out⟩
      case measure => simp [intOf]; omega
set_option maxHeartbeats 4000000 in
set_option maxRecDepth 100000 in
theorem spec_l9Light (A : Option Addr) (n c B : Nat) (ps : List Pth) (A2 : Option Addr) (n2 c2 B2 : Nat) (p : List Prt) (k : Nat) (s id : Int) (m : Nat) (w : World) (h : PthsAt w B A n ps) (hB : B ≤ w.heap.size) (hn : n ≤ 4294967296) (h2 : PrtsAt w B2 A2 n2 p) (hB2 : B2 ≤ w.heap.size) (hn2 : n2 ≤ 1048576) (hm : ∀ j, j < n2 → (prAt p j).stage.length ≤ 1048576) (hk : k < n2) (hf : findK id ps = some m) (hs : -1000000 ≤ s ∧ s ≤ 1000000) (hg : -1000 ≤ (prAt p k).green ∧ (prAt p k).green ≤ 1000) :
    Calls Tryd.prog 73 #[.slice A n c, .slice A2 n2 c2, .int .i64 k, .int .i64 s, .int .i64 id] w fun e w' => e = .returned (.int .i64 (lightJ ps p k s id)) ∧ Below w.heap.size w w' := by
  have hl := h.1
  have hl2 := h2.1
  have hnx : nextJ p k < n2 := by have := nextJ_lt (p := p) (j := k) (by omega); omega
  have e1 : IntKind.i64.wrap ((k : Int) + 1) = (k : Int) + 1 := by rw [IntKind.wrap_i64]; omega
  have e2 : ((k : Int) + 1).tmod (n2 : Int) = ((nextJ p k : Nat) : Int) := by
    unfold nextJ
    rw [hl2, Int.tmod_eq_emod_of_nonneg (by omega), Int.natCast_emod, Int.natCast_add]
    rfl
  have hlj : lightJ ps p k s id = if hasI (prAt p k).stage id then (if decide (s < (prAt p k).green) || hasI (prAt p (nextJ p k)).stage id then 1 else if s < (prAt p k).green + clearN (pAt ps m) then 2 else 0) else 0 := by unfold lightJ idP; rw [hf]; rfl
  have HLJ := Lib.hid hlj
  have hml := findK_at hf
  have hfi : findI id ps = (m : Int) := by unfold findI; rw [hf]
  have hmn : m < n := by
    obtain ⟨q, hq, _⟩ := hml
    have := (List.getElem?_eq_some_iff.1 hq).1
    omega
  have hcb := clearN_bound (pAt ps m)
  have hm1 := hm k hk
  have hm2 := hm _ hnx
  obtain ⟨ad, A', mm, c', rfl, hab, hq, hi, hmc, hnil⟩ := h2.at hk
  obtain ⟨ad', A3, m3, c3, ea, hab3, hq3, hi3, hmc3, hnil3⟩ := h2.at hnx
  obtain rfl : ad = ad' := by injection ea
  clear ea
  have hlz := hi.1
  have hlz3 := hi3.1
  have c0 := hq.c0
  have c1 := hq.c1
  have d0 := hq3.c0
  have g1 := fun x : GW w => (hq.below x.ok (by omega)).c1
  have hH1 := spec_l6Has A' mm c' B2 (prAt p k).stage id w hi (by omega)
  have hH2 := spec_l6Has A3 m3 c3 B2 (prAt p (nextJ p k)).stage id w hi3 (by omega)
  have i1 : (0 : Int) ≤ (k : Int) := by omega
  have i2 : (k : Int) < (n2 : Int) := by omega
  have z1 : ¬ n2 = 0 := by omega
  have z2 : ¬ (n2 : Int) = 0 := by omega
  have e3 : IntKind.i64.wrap ((prAt p k).green + clearN (pAt ps m)) = (prAt p k).green + clearN (pAt ps m) := by rw [IntKind.wrap_i64]; omega
  generalize nextJ p k = nx at *
  have i3 : (0 : Int) ≤ (nx : Int) := by omega
  have i4 : (nx : Int) < (n2 : Int) := by omega
  generalize (prAt p nx).stage = zb at *
  generalize (prAt p k).stage = za at *
  generalize (prAt p k).green = g at *
  have hFP := fun x : GW w => spec_FindPath A n c x.val.heap.size ps id x.val ((h.below (x.ok.mono hB)).up (Nat.le_trans hB x.ok.size)) hn
  rw [hfi] at hFP
  obtain ⟨pd, pp0, rfl, hpb, hpe, hpc⟩ := h.at hmn
  obtain rfl : pAt ps m = pp0 := pAt_some hpe
  clear hpe
  have q0 := fun x : GW w => (hpc.below x.ok (by omega)).c0
  have q1 := fun x : GW w => (hpc.below x.ok (by omega)).c1
  have q2 := fun x : GW w => (hpc.below x.ok (by omega)).c2
  have q3 := fun x : GW w => (hpc.below x.ok (by omega)).c3
  have j1 : (0 : Int) ≤ (m : Int) := by omega
  have j2 : (m : Int) < (n : Int) := by omega
  generalize pAt ps m = pp at *
  have hCO := fun x : GW w => spec_ClearOf pp x.val
  unfold Pth.val at hCO
  generalize clearN pp = cl at *
  clear hlj hml hfi hcb hm1 hm2 hq hi hq3 hi3 hmc hmc3 hnil hnil3 hm hlz hlz3 hl hl2 hpc hnx hk hf hg h h2
  have H1 := Lib.hid hH1
  have H2 := Lib.hid hH2
  clear hH1 hH2
  go_enter Tryd.func73, Tryd.ntmps73
  go_wp2_with fail
  refine H1.out.mono ?_
  cases ha : hasI za id
  · have HR : Hid (lightJ ps p k s id = 0) := Lib.hid (by rw [HLJ.out, ha]; rfl)
    rintro e w1 ⟨rfl, rfl⟩
    clear ha HLJ
    go_wp2
    refine wp_region_grow (by kernel_rfl) (by kernel_rfl) ?_
    repeat (go_big_quiet_step (first | (go_at_call 101; exact calls_gw _ (hCO _)) | (go_at_call 72; exact calls_gw_same _ (hFP _))))
    refine wpQuiet_nil ?_
    intro x3
    have hb3 := x3.ok
    clear q0 q1 q2 q3 hCO hFP
    generalize x3.val = w3 at *
    go_wp2
    go_ret
    exact ⟨by rw [HR.out]; try rfl, hb3⟩
  by_cases hlt : s < g
  · have HR : Hid (lightJ ps p k s id = 1) := Lib.hid (by rw [HLJ.out, ha, decide_eq_true hlt]; rfl)
    rintro e w1 ⟨rfl, rfl⟩
    clear ha HLJ g1 q0 q1 q2 q3 hCO hFP
    go_wp2
    go_ret
    exact ⟨by rw [HR.out]; try rfl, Below.refl _ _⟩
  rintro e w1 ⟨rfl, rfl⟩
  go_wp2_with fail
  refine H2.out.mono ?_
  cases hb : hasI zb id
  · rintro e w1 ⟨rfl, rfl⟩
    by_cases h5 : s < g + cl
    · have HR : Hid (lightJ ps p k s id = 2) := Lib.hid (by rw [HLJ.out, ha, hb, decide_eq_false (show ¬ s < g by omega), if_pos rfl, if_neg (by decide), if_pos h5])
      clear ha hb HLJ
      go_wp2
      refine wp_region_grow (by kernel_rfl) (by kernel_rfl) ?_
      repeat (go_big_quiet_step (first | (go_at_call 101; exact calls_gw _ (hCO _)) | (go_at_call 72; exact calls_gw_same _ (hFP _))))
      refine wpQuiet_nil ?_
      intro x3
      have hb3 := x3.ok
      clear q0 q1 q2 q3 hCO hFP
      generalize x3.val = w3 at *
      go_wp2
      go_ret
      exact ⟨by rw [HR.out]; try rfl, hb3⟩
    · have HR : Hid (lightJ ps p k s id = 0) := Lib.hid (by rw [HLJ.out, ha, hb, decide_eq_false (show ¬ s < g by omega), if_pos rfl, if_neg (by decide), if_neg (show ¬ s < g + cl by omega)])
      clear ha hb HLJ
      go_wp2
      refine wp_region_grow (by kernel_rfl) (by kernel_rfl) ?_
      repeat (go_big_quiet_step (first | (go_at_call 101; exact calls_gw _ (hCO _)) | (go_at_call 72; exact calls_gw_same _ (hFP _))))
      refine wpQuiet_nil ?_
      intro x3
      have hb3 := x3.ok
      clear q0 q1 q2 q3 hCO hFP
      generalize x3.val = w3 at *
      go_wp2
      go_ret
      exact ⟨by rw [HR.out]; try rfl, hb3⟩
  · have HR : Hid (lightJ ps p k s id = 1) := Lib.hid (by rw [HLJ.out, ha, hb, Bool.or_true]; rfl)
    rintro e w1 ⟨rfl, rfl⟩
    clear ha hb HLJ g1 q0 q1 q2 q3 hCO hFP
    go_wp2
    go_ret
    exact ⟨by rw [HR.out]; try rfl, Below.refl _ _⟩
theorem part_yes {ps : List Pth} {p : List Prt} {t : Int} (h : isPlan ps p = true) (ht : inB t 0 1000000 = true) (id : Int) : ∃ (k : Nat) (q : Int), k < p.length ∧ partP ps p t = ((k : Int), q) ∧ 0 ≤ q ∧ q ≤ 65 ∧ lightP ps p t id = if (findK id ps).isSome then lightJ ps p k q id else 0 := by
  have hb := cycle_bound h
  rw [cycle_yes h] at hb
  have h0 := Int.emod_nonneg t (show sumTo ps p p.length ≠ 0 by omega)
  have h1 := Int.emod_lt_of_pos t (show 0 < sumTo ps p p.length by omega)
  have hs := locP_spec h h0 h1
  have hl := locP_lt h (t % sumTo ps p p.length)
  have hlb := longAt_bound h hl
  refine ⟨locP ps p (t % sumTo ps p p.length), _, hl, by unfold partP; rw [h, ht]; rfl, by omega, by omega, ?_⟩
  unfold lightP
  rw [h, ht, Bool.true_and, Bool.true_and]
theorem light_off {ps : List Pth} {p : List Prt} {t : Int} (h : (isPlan ps p && inB t 0 1000000) = false) (id : Int) : lightP ps p t id = 0 := by unfold lightP; rw [h, Bool.false_and]; rfl
set_option maxHeartbeats 2000000 in
theorem spec_LightAt (A : Option Addr) (n c B : Nat) (ps : List Pth) (A2 : Option Addr) (n2 c2 B2 : Nat) (p : List Prt) (a id : Int) (w : World) (h : PthsAt w B A n ps) (hB : B ≤ w.heap.size) (hn : n ≤ 4294967296) (h2 : PrtsAt w B2 A2 n2 p) (hB2 : B2 ≤ w.heap.size) (hn2 : n2 ≤ 1048576) (hm : ∀ j, j < n2 → (prAt p j).stage.length ≤ 1048576) :
    Calls Tryd.prog 34 #[.slice A n c, .slice A2 n2 c2, .int .i64 a, .int .i64 id] w fun e w' => e = .returned (.int .i64 (lightP ps p a id)) ∧ Below w.heap.size w w' := by
  have hl2 := h2.1
  have HPA := Lib.hid (spec_PartAt A n c B ps A2 n2 c2 B2 p a w h hB hn h2 hB2 hn2 hm)
  have HFP := Lib.hid (fun x (hx : Below w.heap.size w x) => spec_FindPath A n c x.heap.size ps id x ((h.below (hx.mono hB)).up (Nat.le_trans hB hx.size)) hn)
  have HL9 := Lib.hid (fun k s m x (hx : Below w.heap.size w x) hk hf hs hg => spec_l9Light A n c B ps A2 n2 c2 B2 p k s id m x (h.below (hx.mono hB)) (Nat.le_trans hB hx.size) hn (h2.below hB2 hx) (Nat.le_trans hB2 hx.size) hn2 hm hk hf hs hg)
  clear h h2 hm hB hB2
  cases hpi : isPlan ps p && inB a 0 1000000
  · have hpo := part_off hpi
    have HR := Lib.hid (light_off hpi id)
    rw [hpo] at HPA
    clear hpo hpi
    go_enter Tryd.func34, Tryd.ntmps34
    go_wp2_with fail
    refine HPA.out.mono ?_
    rintro e w1 ⟨rfl, hb1⟩
    have HB1 := Lib.hid hb1
    clear hb1
    go_wp2
    go_ret
    exact ⟨by rw [HR.out]; try rfl, HB1.out⟩
  rw [Bool.and_eq_true] at hpi
  obtain ⟨k, q, hk, hpp, hq0, hq1, hli⟩ := part_yes hpi.1 hpi.2 id
  have hgr := plan_green hpi.1 hk
  rw [hpp] at HPA
  have HLI := Lib.hid hli
  have HG := Lib.hid hgr
  clear hpp hli hpi hgr
  cases hf : findK id ps with
  | none =>
    have HR : Hid (lightP ps p a id = 0) := Lib.hid (by rw [HLI.out, hf]; rfl)
    have hfi : findI id ps = -1 := by unfold findI; rw [hf]
    rw [hfi] at HFP
    clear hf hfi
    go_enter Tryd.func34, Tryd.ntmps34
    go_wp2_with fail
    refine HPA.out.mono ?_
    rintro e w1 ⟨rfl, hb1⟩
    have HB1 := Lib.hid hb1
    clear hb1
    have i1 : ¬ (k : Int) < 0 := by omega
    go_wp2_with fail
    refine (HFP.out w1 HB1.out).mono ?_
    rintro e w2 ⟨rfl, rfl⟩
    go_wp2
    go_ret
    exact ⟨by rw [HR.out]; try rfl, HB1.out⟩
  | some m =>
    have HR : Hid (lightP ps p a id = lightJ ps p k q id) := Lib.hid (by rw [HLI.out, hf]; rfl)
    have hfi : findI id ps = (m : Int) := by unfold findI; rw [hf]
    rw [hfi] at HFP
    have HF := Lib.hid hf
    clear hf hfi
    go_enter Tryd.func34, Tryd.ntmps34
    go_wp2_with fail
    refine HPA.out.mono ?_
    rintro e w1 ⟨rfl, hb1⟩
    have HB1 := Lib.hid hb1
    clear hb1
    have i1 : ¬ (k : Int) < 0 := by omega
    have i2 : ¬ (m : Int) < 0 := by omega
    go_wp2_with fail
    refine (HFP.out w1 HB1.out).mono ?_
    rintro e w2 ⟨rfl, rfl⟩
    have HL := Lib.hid (HL9.out k q m w1 HB1.out (by omega) HF.out ⟨by omega, by omega⟩ HG.out)
    go_wp2_with fail
    refine HL.out.mono ?_
    rintro e w3 ⟨rfl, hb3⟩
    have HB3 := Lib.hid (HB1.out.trans (hb3.mono HB1.out.size))
    clear hb3
    go_wp2
    go_ret
    exact ⟨by rw [HR.out]; try rfl, HB3.out⟩
/-- the lights of the first k paths. -/
def lightsP' (ps : List Pth) (p : List Prt) (t : Int) (k : Nat) : List Int := (ps.take k).map fun q => lightP ps p t q.id
theorem lights_push {ps : List Pth} {p : List Prt} {t : Int} {k : Nat} {q : Pth} (h : ps[k]? = some q) : lightsP' ps p t (k + 1) = lightsP' ps p t k ++ [lightP ps p t q.id] := by
  unfold lightsP'
  rw [List.take_add_one, h, List.map_append]
  rfl
set_option maxHeartbeats 2000000 in
theorem spec_LightsAt (A : Option Addr) (n c B : Nat) (ps : List Pth) (A2 : Option Addr) (n2 c2 B2 : Nat) (p : List Prt) (a : Int) (w : World) (h : PthsAt w B A n ps) (hB : B ≤ w.heap.size) (hn : n ≤ 4294967296) (h2 : PrtsAt w B2 A2 n2 p) (hB2 : B2 ≤ w.heap.size) (hn2 : n2 ≤ 1048576) (hm : ∀ j, j < n2 → (prAt p j).stage.length ≤ 1048576) :
    Calls Tryd.prog 36 #[.slice A n c, .slice A2 n2 c2, .int .i64 a] w fun e w' => ∃ v, e = .returned v ∧ Own .i64 3 w' w.heap.size v (lightsP ps p a) ∧ Below w.heap.size w w' := by
  have hl := h.1
  have HLA := Lib.hid (fun id x (hx : Below w.heap.size w x) => spec_LightAt A n c B ps A2 n2 c2 B2 p a id x (h.below (hx.mono hB)) (Nat.le_trans hB hx.size) hn (h2.below hB2 hx) (Nat.le_trans hB2 hx.size) hn2 hm)
  have own0 := own_bare .i64 3 w
  have hb0 : Below w.heap.size w (w.alloc (.cells #[] 3)) := (Below.refl _ _).alloc (Nat.le_refl _) _
  clear h2 hm
  go_enter Tryd.func36, Tryd.ntmps36
  go_wp2
  go_loopw [7, 8] (fun v i wr => ∃ k : Nat, k ≤ n ∧ i = .int .i64 k ∧ Own .i64 3 wr w.heap.size v (lightsP' ps p a k) ∧ Below w.heap.size w wr) (fun _ i _ => n - (intOf i).toNat)
  case atStart => exact ⟨0, Nat.zero_le _, rfl, by simpa [lightsP'] using own0, hb0⟩
  case round =>
    clear own0 hb0
    obtain ⟨k, hk, rfl, hown, hbl⟩ := hrel
    have hsz := hbl.size
    by_cases hlt : k < n
    · obtain ⟨ad, q, rfl, hab, hp, hq⟩ := h.at hlt
      obtain ⟨c0, -, -, -⟩ := hq.below hbl (by omega)
      have HS := Lib.hid (lights_push (p := p) (t := a) hp)
      have hln : (lightsP' ps p a k).length ≤ k := by unfold lightsP'; rw [List.length_map, List.length_take]; omega
      have HL := Lib.hid (HLA.out q.id wr hbl)
      generalize lightsP' ps p a k = l at *
      clear hp
      go_wp2_with fail
      refine HL.out.mono ?_
      rintro e w1 ⟨rfl, hb1⟩
      have hown1 := hown.below hb1
      have hbl1 := hbl.trans (hb1.mono hsz)
      have hs1 := hbl1.size
      clear hb1 hbl hown c0 hq
      generalize lightP ps p a q.id = z at *
      go_wp2_with (at_builtin; refine wpList_app1 rfl _ _ 45 rfl .i64 3 8 Tryd.underlying45 info_i64 w.heap.size _ l rfl hown1 (by decide) (by omega) _ _ _ w1.heap.size hs1 rfl (by simp) ?_; intro v4 w4 hown4 hgrow4 hat4)
      have hb4 := hown1.push (Nat.le_refl _) (hbl1.alloc hs1 _) (by simp; omega) hgrow4
      clear hgrow4 hat4 hown1 hbl1
      go_roundw
      case rel => exact ⟨k + 1, by omega, by go_num, by rw [HS.out]; exact hown4, hb4⟩
      case measure => simp [intOf]; omega
    · obtain rfl : k = n := by omega
      have HE : Hid (lightsP' ps p a k = lightsP ps p a) := Lib.hid (by unfold lightsP' lightsP; rw [List.take_of_length_le (by omega)])
      have HO := Lib.hid hown
      clear hown
      go_wp2
      go_ret
      exact ⟨_, rfl, by rw [← HE.out]; exact HO.out, hbl⟩
end Go.Proofs.YtmbbmffoihhdfaaDoor

/- LightAt, LightsAt, PartAt as their exact laws meet them. -/
namespace Go.Proofs.YtmbbmffoihhdfaaDoor
open Go.RowKit
set_option linter.unusedVariables false

theorem sp_LightAt (A0 : Option Addr) (n0 c0 : Nat) (zs0 : List Pth) (A1 : Option Addr) (n1 c1 : Nat) (zs1 : List Prt) (a2 : Int) (a3 : Int) (w : World) (h0 : SlP w A0 n0 c0 zs0) (hs0 : n0 ≤ 1048576) (h1 : SlQ w A1 n1 c1 zs1) (hs1 : SmallP zs1) (wa2 : (Lit.int .i64 a2).wf = true) (wa3 : (Lit.int .i64 a3).wf = true) (r : Int) (hr : lightP zs0 zs1 a2 a3 = r) :
    Calls Tryd.prog 34 #[.slice A0 n0 c0, .slice A1 n1 c1, .int .i64 a2, .int .i64 a3] w fun e w' => e = .returned (.int .i64 r) ∧ Below w.heap.size w w' := by
  subst hr
  have hq1 := h1.prts.1
  have hz1 := hs1.1
  exact spec_LightAt A0 n0 c0 _ zs0 A1 n1 c1 _ zs1 a2 a3 w h0.pths (Nat.le_refl _) (by omega) h1.prts (Nat.le_refl _) (by omega) (hs1.at _ _ hq1.symm (Nat.le_refl _))
theorem im_LightAt (A0 : Option Addr) (n0 c0 : Nat) (zs0 : List Pth) (A1 : Option Addr) (n1 c1 : Nat) (zs1 : List Prt) (a2 : Int) (a3 : Int) (w : World) (h0 : SlP w A0 n0 c0 zs0) (hs0 : n0 ≤ 1048576) (h1 : SlQ w A1 n1 c1 zs1) (hs1 : SmallP zs1) (wa2 : (Lit.int .i64 a2).wf = true) (wa3 : (Lit.int .i64 a3).wf = true) (hv0 : Brus w) (hv1 : Clrs w) (r : Int) (hr : lightP zs0 zs1 a2 a3 = r) :
    Calls Tryd.prog 35 #[.slice A0 n0 c0, .slice A1 n1 c1, .int .i64 a2, .int .i64 a3] w fun e w' => e = .returned (.int .i64 r) ∧ Below w.heap.size w w' := by
  subst hr
  have hq1 := h1.prts.1
  have hz1 := hs1.1
  exact impl_LightAt ⟨h0.pths, Nat.le_refl _, h0.cap, by omega, h1.prts, Nat.le_refl _, by omega, hs1.at _ _ hq1.symm (Nat.le_refl _), hv0, hv1⟩ a2 a3
theorem sp_PartAt (A0 : Option Addr) (n0 c0 : Nat) (zs0 : List Pth) (A1 : Option Addr) (n1 c1 : Nat) (zs1 : List Prt) (a2 : Int) (w : World) (h0 : SlP w A0 n0 c0 zs0) (hs0 : n0 ≤ 1048576) (h1 : SlQ w A1 n1 c1 zs1) (hs1 : SmallP zs1) (wa2 : (Lit.int .i64 a2).wf = true) (r0 r1 : Int) (hr : partP zs0 zs1 a2 = (r0, r1)) :
    Calls Tryd.prog 32 #[.slice A0 n0 c0, .slice A1 n1 c1, .int .i64 a2] w fun e w' => e = .returned (.tuple #[.int .i64 r0, .int .i64 r1]) ∧ Below w.heap.size w w' := by
  obtain rfl : (partP zs0 zs1 a2).1 = r0 := by rw [hr]
  obtain rfl : (partP zs0 zs1 a2).2 = r1 := by rw [hr]
  clear hr
  have hq1 := h1.prts.1
  have hz1 := hs1.1
  exact spec_PartAt A0 n0 c0 _ zs0 A1 n1 c1 _ zs1 a2 w h0.pths (Nat.le_refl _) (by omega) h1.prts (Nat.le_refl _) (by omega) (hs1.at _ _ hq1.symm (Nat.le_refl _))
theorem im_PartAt (A0 : Option Addr) (n0 c0 : Nat) (zs0 : List Pth) (A1 : Option Addr) (n1 c1 : Nat) (zs1 : List Prt) (a2 : Int) (w : World) (h0 : SlP w A0 n0 c0 zs0) (hs0 : n0 ≤ 1048576) (h1 : SlQ w A1 n1 c1 zs1) (hs1 : SmallP zs1) (wa2 : (Lit.int .i64 a2).wf = true) (hv0 : Brus w) (hv1 : Clrs w) (r0 r1 : Int) (hr : partP zs0 zs1 a2 = (r0, r1)) :
    Calls Tryd.prog 33 #[.slice A0 n0 c0, .slice A1 n1 c1, .int .i64 a2] w fun e w' => e = .returned (.tuple #[.int .i64 r0, .int .i64 r1]) ∧ Below w.heap.size w w' := by
  obtain rfl : (partP zs0 zs1 a2).1 = r0 := by rw [hr]
  obtain rfl : (partP zs0 zs1 a2).2 = r1 := by rw [hr]
  clear hr
  have hq1 := h1.prts.1
  have hz1 := hs1.1
  exact impl_PartAt ⟨h0.pths, Nat.le_refl _, h0.cap, by omega, h1.prts, Nat.le_refl _, by omega, hs1.at _ _ hq1.symm (Nat.le_refl _), hv0, hv1⟩ a2
theorem sp_LightsAt (A0 : Option Addr) (n0 c0 : Nat) (zs0 : List Pth) (A1 : Option Addr) (n1 c1 : Nat) (zs1 : List Prt) (a2 : Int) (w : World) (h0 : SlP w A0 n0 c0 zs0) (hs0 : n0 ≤ 1048576) (h1 : SlQ w A1 n1 c1 zs1) (hs1 : SmallP zs1) (wa2 : (Lit.int .i64 a2).wf = true) (r : List Int) (hr : lightsP zs0 zs1 a2 = r) :
    Calls Tryd.prog 36 #[.slice A0 n0 c0, .slice A1 n1 c1, .int .i64 a2] w fun e w' => ∃ v, e = .returned v ∧ Own .i64 3 w' w.heap.size v r ∧ Below w.heap.size w w' ∧ r.length ≤ 1048576 := by
  subst hr
  have hq1 := h1.prts.1
  have hz1 := hs1.1
  refine (spec_LightsAt A0 n0 c0 _ zs0 A1 n1 c1 _ zs1 a2 w h0.pths (Nat.le_refl _) (by omega) h1.prts (Nat.le_refl _) (by omega) (hs1.at _ _ hq1.symm (Nat.le_refl _))).mono fun e w' ⟨v, h1, h2, h3⟩ => ⟨v, h1, h2, h3, ?_⟩
  unfold lightsP
  rw [List.length_map, h0.pths.1]
  exact hs0
theorem im_LightsAt (A0 : Option Addr) (n0 c0 : Nat) (zs0 : List Pth) (A1 : Option Addr) (n1 c1 : Nat) (zs1 : List Prt) (a2 : Int) (w : World) (h0 : SlP w A0 n0 c0 zs0) (hs0 : n0 ≤ 1048576) (h1 : SlQ w A1 n1 c1 zs1) (hs1 : SmallP zs1) (wa2 : (Lit.int .i64 a2).wf = true) (hv0 : Brus w) (hv1 : Clrs w) (r : List Int) (hr : lightsP zs0 zs1 a2 = r) :
    Calls Tryd.prog 37 #[.slice A0 n0 c0, .slice A1 n1 c1, .int .i64 a2] w fun e w' => ∃ v, e = .returned v ∧ Own .i64 3 w' w.heap.size v r ∧ Below w.heap.size w w' ∧ r.length ≤ 1048576 := by
  subst hr
  have hq1 := h1.prts.1
  have hz1 := hs1.1
  refine (impl_LightsAt ⟨h0.pths, Nat.le_refl _, h0.cap, by omega, h1.prts, Nat.le_refl _, by omega, hs1.at _ _ hq1.symm (Nat.le_refl _), hv0, hv1⟩ hs0 a2).mono fun e w' ⟨v, h1, h2, h3⟩ => ⟨v, h1, h2, h3, ?_⟩
  unfold lightsP
  rw [List.length_map, h0.pths.1]
  exact hs0
end Go.Proofs.YtmbbmffoihhdfaaDoor

/- Chapter 11's model: GreenShare, SpareGreen. -/
namespace Go.Proofs.YtmbbmffoihhdfaaDoor
open Go.RowKit
set_option linter.unusedVariables false

theorem share_quo {ps : List Pth} {p : List Prt} (h : isPlan ps p = true) {k : Nat} (hk : k < p.length) : (100 * (prAt p k).green).tdiv (sumTo ps p p.length) = 100 * (prAt p k).green / sumTo ps p p.length := by
  obtain ⟨_, _, _, h4⟩ := isPlan_parts h
  obtain ⟨_, _, h5, h6⟩ := okPrt_parts (h4 k hk)
  have := leastG_bound ps (prAt p k).stage
  exact Int.tdiv_eq_ediv_of_nonneg (by omega)
set_option maxHeartbeats 2000000 in
theorem spec_GreenShare (A : Option Addr) (n c B : Nat) (ps : List Pth) (A2 : Option Addr) (n2 c2 B2 : Nat) (p : List Prt) (a : Int) (w : World) (h : PthsAt w B A n ps) (hB : B ≤ w.heap.size) (hn : n ≤ 4294967296) (h2 : PrtsAt w B2 A2 n2 p) (hB2 : B2 ≤ w.heap.size) (hn2 : n2 ≤ 1048576) (hm : ∀ j, j < n2 → (prAt p j).stage.length ≤ 1048576) :
    Calls Tryd.prog 50 #[.slice A n c, .slice A2 n2 c2, .int .i64 a] w fun e w' => e = .returned (.int .i64 (shareG ps p a)) ∧ Below w.heap.size w w' := by
  have hl2 := h2.1
  have HIP := Lib.hid (fun x (hx : Below w.heap.size w x) => spec_IsPlan A n c B ps A2 n2 c2 B2 p x (h.below (hx.mono hB)) (Nat.le_trans hB hx.size) hn (h2.below hB2 hx) (Nat.le_trans hB2 hx.size) hn2 hm)
  have HCY := Lib.hid (fun x (hx : Below w.heap.size w x) => spec_Cycle A n c B ps A2 n2 c2 B2 p x (h.below (hx.mono hB)) (Nat.le_trans hB hx.size) hn (h2.below hB2 hx) (Nat.le_trans hB2 hx.size) hn2 hm)
  have e1 : IntKind.i64.wrap ((n2 : Int) - 1) = (n2 : Int) - 1 := by rw [IntKind.wrap_i64]; omega
  have hst : shareG ps p a = if isPlan ps p && inB a 0 ((n2 : Int) - 1) then 100 * (prAt p a.toNat).green / sumTo ps p p.length else 0 := by unfold shareG; rw [hl2]
  have HST := Lib.hid hst
  have H2 := Lib.hid h2
  have HL2 := Lib.hid hl2
  clear hm h h2 hst
  go_enter Tryd.func50, Tryd.ntmps50
  go_wp2_with fail
  refine (HIP.out w (Below.refl _ _)).mono ?_
  cases hp : isPlan ps p
  · have HR : Hid (shareG ps p a = 0) := Lib.hid (by rw [HST.out, hp]; rfl)
    rintro e w3 ⟨rfl, hb3⟩
    clear hp
    go_wp2
    go_ret
    exact ⟨by rw [HR.out]; try rfl, hb3⟩
  rintro e w3 ⟨rfl, hb3⟩
  have HB3 := Lib.hid hb3
  have HP := Lib.hid hp
  clear hb3 hp
  have HIN := Lib.hid (spec_l1In a 0 ((n2 : Int) - 1) w3)
  go_wp2_with fail
  refine HIN.out.mono ?_
  cases hi : inB a 0 ((n2 : Int) - 1)
  · have HR : Hid (shareG ps p a = 0) := Lib.hid (by rw [HST.out, hi, Bool.and_false]; rfl)
    rintro e w4 ⟨rfl, rfl⟩
    clear hi
    go_wp2
    go_ret
    exact ⟨by rw [HR.out]; try rfl, HB3.out⟩
  rintro e w4 ⟨rfl, rfl⟩
  have hab := inB_t hi
  obtain ⟨m, rfl⟩ : ∃ m : Nat, a = (m : Int) := ⟨a.toNat, by omega⟩
  have hmn : m < n2 := by omega
  have hq := share_quo HP.out (show m < p.length by omega)
  have hgr := plan_green HP.out (show m < p.length by omega)
  have hcy := cycle_yes HP.out
  have hcb := cycle_bound HP.out
  have hR : shareG ps p (m : Int) = 100 * (prAt p m).green / sumTo ps p p.length := by rw [HST.out, hi, HP.out]; rfl
  rw [← hq, ← hcy] at hR
  have HR := Lib.hid hR
  obtain ⟨ad, A', m', c', rfl, hab2, hq2, -, -, -⟩ := H2.out.at hmn
  have c1 := fun x : GW w3 => ((hq2.below HB3.out (by omega)).below x.ok (by have := HB3.out.size; omega)).c1
  have i1 : (0 : Int) ≤ (m : Int) := by omega
  have i2 : (m : Int) < (n2 : Int) := by omega
  have hCY := fun x : GW w3 => HCY.out x.val (HB3.out.trans (x.ok.mono HB3.out.size))
  generalize (prAt p m).green = g at *
  generalize cycleP ps p = cy at *
  have e2 : IntKind.i64.wrap (100 * g) = 100 * g := by rw [IntKind.wrap_i64]; omega
  have z1 : ¬ cy = 0 := by omega
  have e3 : IntKind.i64.wrap ((100 * g).tdiv cy) = (100 * g).tdiv cy := by
    rw [IntKind.wrap_i64]
    have h1 : (100 * g).tdiv cy ≤ 100000 ∧ -100000 ≤ (100 * g).tdiv cy := by
      have := Int.natAbs_tdiv (100 * g) cy
      have h3 : (100 * g).natAbs.div cy.natAbs ≤ (100 * g).natAbs := Nat.div_le_self _ _
      omega
    omega
  clear hi hab HST HIN HIP HCY hq hcy hq2 hR H2 HL2 hl2 e1 hgr hcb
  go_wp2
  refine wp_region_grow (by kernel_rfl) (by kernel_rfl) ?_
  repeat (go_big_quiet_step (first | (go_at_call 23; exact calls_gw _ (hCY _))))
  refine wpQuiet_nil ?_
  intro x3
  have hb3 := x3.ok
  clear c1 hCY
  generalize x3.val = w5 at *
  go_wp2
  go_ret
  exact ⟨by rw [HR.out]; try rfl, HB3.out.trans (hb3.mono HB3.out.size)⟩
set_option maxHeartbeats 4000000 in
set_option maxRecDepth 100000 in
theorem spec_SpareGreen (A : Option Addr) (n c B : Nat) (ps : List Pth) (A2 : Option Addr) (n2 c2 B2 : Nat) (p : List Prt) (a : Int) (w : World) (h : PthsAt w B A n ps) (hB : B ≤ w.heap.size) (hn : n ≤ 4294967296) (h2 : PrtsAt w B2 A2 n2 p) (hB2 : B2 ≤ w.heap.size) (hn2 : n2 ≤ 1048576) (hm : ∀ j, j < n2 → (prAt p j).stage.length ≤ 1048576) :
    Calls Tryd.prog 52 #[.slice A n c, .slice A2 n2 c2, .int .i64 a] w fun e w' => e = .returned (.int .i64 (spareP ps p a)) ∧ Below w.heap.size w w' := by
  have hl2 := h2.1
  have HIP := Lib.hid (fun x (hx : Below w.heap.size w x) => spec_IsPlan A n c B ps A2 n2 c2 B2 p x (h.below (hx.mono hB)) (Nat.le_trans hB hx.size) hn (h2.below hB2 hx) (Nat.le_trans hB2 hx.size) hn2 hm)
  have HH := Lib.hid (fun x (hx : Below w.heap.size w x) => (⟨h.below (hx.mono hB), Nat.le_trans hB hx.size⟩ : PthsAt x B A n ps ∧ B ≤ x.heap.size))
  have HOFF := Lib.hid (fun hh => spareP_off (ps := ps) (p := p) (c := a) hh)
  have HON := Lib.hid (fun q1 q2 => spareP_on (ps := ps) (p := p) (c := a) q1 q2)
  have HND := Lib.hid (fun k => needTo_bound ps p k)
  have HNS : Hid (∀ k, needTo ps p (k + 1) = needTo ps p k + (leastG ps (prAt p k).stage + clrAt ps p k)) := Lib.hid (fun _ => rfl)
  have H2 := Lib.hid h2
  have HL2 := Lib.hid hl2
  have HM := Lib.hid hm
  clear h h2 hm
  go_enter Tryd.func52, Tryd.ntmps52
  go_wp2_with fail
  refine (HIP.out w (Below.refl _ _)).mono ?_
  cases hp : isPlan ps p
  · have HR := Lib.hid (HOFF.out (by rw [hp]; rfl))
    rintro e w3 ⟨rfl, hb3⟩
    clear hp
    go_wp2
    go_ret
    exact ⟨by rw [HR.out]; try rfl, hb3⟩
  rintro e w3 ⟨rfl, hb3⟩
  have HB3 := Lib.hid hb3
  have HP := Lib.hid hp
  clear hb3 hp
  have HIN := Lib.hid (spec_l1In a 1 1000 w3)
  go_wp2_with fail
  refine HIN.out.mono ?_
  cases hi : inB a 1 1000
  · have HR := Lib.hid (HOFF.out (by rw [hi, Bool.and_false]))
    rintro e w4 ⟨rfl, rfl⟩
    clear hi
    go_wp2
    go_ret
    exact ⟨by rw [HR.out]; try rfl, HB3.out⟩
  rintro e w4 ⟨rfl, rfl⟩
  have hab := inB_t hi
  have HR := Lib.hid (HON.out HP.out hi)
  clear hi HOFF HON HIN HIP
  go_wp2
  go_loopw [7, 8] (fun x i wr => ∃ (k : Nat) (q : Int), k ≤ n2 ∧ i = .int .i64 k ∧ x = .int .i64 q ∧ q = a - needTo ps p k ∧ Below w.heap.size w wr) (fun _ i _ => n2 - (intOf i).toNat)
  case atStart => exact ⟨0, a, Nat.zero_le _, rfl, rfl, by simp [needTo], HB3.out⟩
  case round =>
    obtain ⟨k, q, hk, rfl, rfl, hq, hbl⟩ := hrel
    have HQ := Lib.hid hq
    have HBW := Lib.hid hbl
    have hsz := hbl.size
    have hnb := HND.out k
    clear hq hbl
    by_cases hlt : k < n2
    · have hnx : nextJ p k < n2 := by have := nextJ_lt (p := p) (j := k) (by omega); omega
      have e1 : IntKind.i64.wrap ((k : Int) + 1) = (k : Int) + 1 := by rw [IntKind.wrap_i64]; omega
      have e2 : ((k : Int) + 1).tmod (n2 : Int) = ((nextJ p k : Nat) : Int) := by
        unfold nextJ
        rw [HL2.out, Int.tmod_eq_emod_of_nonneg (by omega), Int.natCast_emod, Int.natCast_add]
        rfl
      have hcb := clrAt_bound ps p k
      have hlg := leastG_bound ps (prAt p k).stage
      have hns := HNS.out k
      have hqv := HQ.out
      have hp6 := (isPlan_parts HP.out).1
      have e3 : IntKind.i64.wrap (q - leastG ps (prAt p k).stage) = q - leastG ps (prAt p k).stage := by rw [IntKind.wrap_i64]; omega
      have e4 : IntKind.i64.wrap (q - leastG ps (prAt p k).stage - clrAt ps p k) = a - needTo ps p (k + 1) := by rw [IntKind.wrap_i64]; omega
      have HL : Hid (clrAt ps p k = clrB ps (prAt p k).stage (prAt p (nextJ p k)).stage) := Lib.hid rfl
      have hm1 := HM.out k hlt
      have hm2 := HM.out _ hnx
      obtain ⟨ad, A', m, c', rfl, hab2, hq2, hi, hmc, hnil⟩ := H2.out.at hlt
      obtain ⟨ad', A3, m3, c3, ea, hab3, hq3, hi3, hmc3, hnil3⟩ := H2.out.at hnx
      obtain rfl : ad = ad' := by injection ea
      clear ea
      have hlz := hi.1
      have hlz3 := hi3.1
      have HX := Lib.hid (fun x : GW wr => HBW.out.trans (x.ok.mono hsz))
      have HIX := Lib.hid (fun x : GW wr => hi.laid hB2 (HX.out x))
      have HIX3 := Lib.hid (fun x : GW wr => hi3.laid hB2 (HX.out x))
      have c0 := fun x : GW wr => (hq2.below (HX.out x) (by omega)).c0
      have d0 := fun x : GW wr => (hq3.below (HX.out x) (by omega)).c0
      have i1 : (0 : Int) ≤ (k : Int) := by omega
      have i2 : (k : Int) < (n2 : Int) := by omega
      have z1 : ¬ n2 = 0 := by omega
      have z2 : ¬ (n2 : Int) = 0 := by omega
      generalize nextJ p k = nx at *
      have i3 : (0 : Int) ≤ (nx : Int) := by omega
      have i4 : (nx : Int) < (n2 : Int) := by omega
      generalize (prAt p nx).stage = zb at *
      generalize (prAt p k).stage = za at *
      have hCB := fun x : GW wr => spec_ClearBetween A n c B ps A' m c' B2 za A3 m3 c3 B2 zb x.val (HH.out _ (HX.out x)).1 (HH.out _ (HX.out x)).2 hn (HIX.out x) (Nat.le_trans hB2 (HX.out x).size) (by omega) (HIX3.out x) (Nat.le_trans hB2 (HX.out x).size) (by omega)
      have hLG := fun x : GW wr => spec_LeastGreen A n c B ps A' m c' B2 za x.val (HH.out _ (HX.out x)).1 (HIX.out x) (HH.out _ (HX.out x)).2 (Nat.le_trans hB2 (HX.out x).size) hn (by omega)
      rw [← HL.out] at hCB
      generalize clrAt ps p k = cl at *
      generalize leastG ps za = lg at *
      have HE4 := Lib.hid e4
      generalize hr : a - needTo ps p (k + 1) = r at *
      have HRR := Lib.hid hr.symm
      clear hr
      clear HL hlz hlz3 hm1 hm2 HIX HIX3 hq2 hi hq3 hi3 hcb hmc hmc3 hnil hnil3 hnx hlg hns hqv hp6 HX hnb
      go_wp2
      refine wp_region_grow (by kernel_rfl) (by kernel_rfl) ?_
      repeat (go_big_quiet_step (first | (go_at_call 82; exact calls_gw _ (hCB _)) | (go_at_call 57; exact calls_gw _ (hLG _))))
      refine wpQuiet_nil ?_
      intro x3
      have hb3 := x3.ok
      clear c0 d0 hCB hLG
      generalize x3.val = w5 at *
      go_wp2
      go_roundw
      case rel => exact ⟨k + 1, r, by omega, by go_num, rfl, HRR.out, HBW.out.trans (hb3.mono hsz)⟩
      case measure => simp [intOf]; omega
    · obtain rfl : k = n2 := by omega
      have HR2 : Hid (spareP ps p a = maxI (-1) q) := Lib.hid (by rw [HR.out, HQ.out, HL2.out])
      go_wp2_with fail
      refine (spec_Max _ _ _).mono ?_
      rintro e w5 ⟨rfl, rfl⟩
      go_wp2
      go_ret
      exact ⟨by rw [HR2.out]; try rfl, HBW.out⟩
end Go.Proofs.YtmbbmffoihhdfaaDoor

/- GreenShare, SpareGreen as their exact laws meet them. -/
namespace Go.Proofs.YtmbbmffoihhdfaaDoor
open Go.RowKit
set_option linter.unusedVariables false

theorem sp_GreenShare (A0 : Option Addr) (n0 c0 : Nat) (zs0 : List Pth) (A1 : Option Addr) (n1 c1 : Nat) (zs1 : List Prt) (a2 : Int) (w : World) (h0 : SlP w A0 n0 c0 zs0) (hs0 : n0 ≤ 1048576) (h1 : SlQ w A1 n1 c1 zs1) (hs1 : SmallP zs1) (wa2 : (Lit.int .i64 a2).wf = true) (r : Int) (hr : shareG zs0 zs1 a2 = r) :
    Calls Tryd.prog 50 #[.slice A0 n0 c0, .slice A1 n1 c1, .int .i64 a2] w fun e w' => e = .returned (.int .i64 r) ∧ Below w.heap.size w w' := by
  subst hr
  have hq1 := h1.prts.1
  have hz1 := hs1.1
  exact spec_GreenShare A0 n0 c0 _ zs0 A1 n1 c1 _ zs1 a2 w h0.pths (Nat.le_refl _) (by omega) h1.prts (Nat.le_refl _) (by omega) (hs1.at _ _ hq1.symm (Nat.le_refl _))
theorem im_GreenShare (A0 : Option Addr) (n0 c0 : Nat) (zs0 : List Pth) (A1 : Option Addr) (n1 c1 : Nat) (zs1 : List Prt) (a2 : Int) (w : World) (h0 : SlP w A0 n0 c0 zs0) (hs0 : n0 ≤ 1048576) (h1 : SlQ w A1 n1 c1 zs1) (hs1 : SmallP zs1) (wa2 : (Lit.int .i64 a2).wf = true) (hv0 : Brus w) (hv1 : Clrs w) (r : Int) (hr : shareG zs0 zs1 a2 = r) :
    Calls Tryd.prog 51 #[.slice A0 n0 c0, .slice A1 n1 c1, .int .i64 a2] w fun e w' => e = .returned (.int .i64 r) ∧ Below w.heap.size w w' := by
  subst hr
  have hq1 := h1.prts.1
  have hz1 := hs1.1
  exact impl_GreenShare ⟨h0.pths, Nat.le_refl _, h0.cap, by omega, h1.prts, Nat.le_refl _, by omega, hs1.at _ _ hq1.symm (Nat.le_refl _), hv0, hv1⟩ a2
theorem sp_SpareGreen (A0 : Option Addr) (n0 c0 : Nat) (zs0 : List Pth) (A1 : Option Addr) (n1 c1 : Nat) (zs1 : List Prt) (a2 : Int) (w : World) (h0 : SlP w A0 n0 c0 zs0) (hs0 : n0 ≤ 1048576) (h1 : SlQ w A1 n1 c1 zs1) (hs1 : SmallP zs1) (wa2 : (Lit.int .i64 a2).wf = true) (r : Int) (hr : spareP zs0 zs1 a2 = r) :
    Calls Tryd.prog 52 #[.slice A0 n0 c0, .slice A1 n1 c1, .int .i64 a2] w fun e w' => e = .returned (.int .i64 r) ∧ Below w.heap.size w w' := by
  subst hr
  have hq1 := h1.prts.1
  have hz1 := hs1.1
  exact spec_SpareGreen A0 n0 c0 _ zs0 A1 n1 c1 _ zs1 a2 w h0.pths (Nat.le_refl _) (by omega) h1.prts (Nat.le_refl _) (by omega) (hs1.at _ _ hq1.symm (Nat.le_refl _))
theorem im_SpareGreen (A0 : Option Addr) (n0 c0 : Nat) (zs0 : List Pth) (A1 : Option Addr) (n1 c1 : Nat) (zs1 : List Prt) (a2 : Int) (w : World) (h0 : SlP w A0 n0 c0 zs0) (hs0 : n0 ≤ 1048576) (h1 : SlQ w A1 n1 c1 zs1) (hs1 : SmallP zs1) (wa2 : (Lit.int .i64 a2).wf = true) (hv0 : Brus w) (hv1 : Clrs w) (r : Int) (hr : spareP zs0 zs1 a2 = r) :
    Calls Tryd.prog 53 #[.slice A0 n0 c0, .slice A1 n1 c1, .int .i64 a2] w fun e w' => e = .returned (.int .i64 r) ∧ Below w.heap.size w w' := by
  subst hr
  have hq1 := h1.prts.1
  have hz1 := hs1.1
  exact impl_SpareGreen ⟨h0.pths, Nat.le_refl _, h0.cap, by omega, h1.prts, Nat.le_refl _, by omega, hs1.at _ _ hq1.symm (Nat.le_refl _), hv0, hv1⟩ a2
end Go.Proofs.YtmbbmffoihhdfaaDoor
